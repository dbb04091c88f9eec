/- Several texts of layers 3 and 4, one behind the other: IntNum4, IntValid, IntRead2, IntBoth, IntComb, IntExp, RatStr, RatStep, RatValid, RatPos, RatBuilt, RatFin. -/
import Derived.Test.YtippeffbdjjcfaaGreatDoorRM2
/- IntNum4: The contract of the division of numbers with a sign. -/
namespace Go.Proofs.YtippeffbdjjcfaaGreatDoor
open Go.RowKit Putlog

theorem sgn_mul_y (s : Bool) (Q : Nat) (y : Int) : sgn s Q * y = sgn (s != decide (y < 0)) (Q * y.natAbs) := by
  rcases (show y < 0 ∨ 0 ≤ y by omega) with h | h
  · have e : y = -(y.natAbs : Int) := by omega
    have e2 : decide (y < 0) = true := by simp [h]
    rw [e2]
    generalize y.natAbs = Y at e
    subst e
    cases s <;> simp [sgn, Int.neg_mul, Int.mul_neg]
  · have e : y = (y.natAbs : Int) := by omega
    have e2 : decide (y < 0) = false := by simp; omega
    rw [e2]
    generalize y.natAbs = Y at e
    subst e
    cases s <;> simp [sgn, Int.neg_mul]
theorem nd_pure {x y : Int} (hy : y ≠ 0) {Q R : Nat} (hR : R < y.natAbs) (h1 : x < 0 → x.natAbs + R = Q * y.natAbs) (h2 : ¬ x < 0 → x.natAbs = Q * y.natAbs + R) :
    sgn (decide (x < 0) != decide (y < 0)) Q = x / y ∧ (R : Int) = x % y := by
  refine ediv_unique hy ?_ (by omega) (by omega)
  rw [sgn_mul_y]
  have e : ((decide (x < 0) != decide (y < 0)) != decide (y < 0)) = decide (x < 0) := by cases decide (x < 0) <;> cases decide (y < 0) <;> rfl
  rw [e]
  unfold sgn
  by_cases h : x < 0
  · have := h1 h; simp only [h, decide_true, if_true]; omega
  · have := h2 h; simp only [h, decide_false, Bool.false_eq_true, if_false]; omega
/-- Two numbers in boxes, and the boxes of two results. -/
structure Box4 (w W : World) (x1 x2 y1 y2 : Value) : Prop where
  a1 : W.cell? ⟨w.heap.size, 0, none⟩ = some x1
  a2 : W.cell? ⟨w.heap.size, 1, none⟩ = some x2
  b1 : W.cell? ⟨w.heap.size + 1, 0, none⟩ = some y1
  b2 : W.cell? ⟨w.heap.size + 1, 1, none⟩ = some y2
  r : W.heap[w.heap.size + 1 + 1]? = some (.cells #[.bool false, .slice none 0 0] 84 (0, 0))
  s : W.heap[w.heap.size + 1 + 1 + 1]? = some (.cells #[.bool false, .slice none 0 0] 84 (0, 0))
  bel : Below w.heap.size w W
theorem box4_made (w : World) (x1 x2 y1 y2 : Value) : Box4 w ((((w.alloc (.cells #[x1, x2] 84)).alloc (.cells #[y1, y2] 84)).alloc (.cells #[.bool false, .slice none 0 0] 84)).alloc (.cells #[.bool false, .slice none 0 0] 84)) x1 x2 y1 y2 := by
  have h := box3_made w x1 x2 y1 y2
  have hs : (((w.alloc (.cells #[x1, x2] 84)).alloc (.cells #[y1, y2] 84)).alloc (.cells #[.bool false, .slice none 0 0] 84)).heap.size = w.heap.size + 1 + 1 + 1 := by simp
  generalize ((w.alloc (.cells #[x1, x2] 84)).alloc (.cells #[y1, y2] 84)).alloc (.cells #[.bool false, .slice none 0 0] 84) = W at *
  have hb := alloc_below W (.cells #[.bool false, .slice none 0 0] 84)
  have hn := heap_alloc_new W (.cells #[.bool false, .slice none 0 0] 84)
  rw [hs] at hn
  have h := h.via hb
  exact ⟨h.a1, h.a2, h.b1, h.b2, h.r, hn, h.bel⟩
theorem Box4.via {w W W' : World} {x1 x2 y1 y2 : Value} (hB : Below W.heap.size W W') (h : Box4 w W x1 x2 y1 y2) : Box4 w W' x1 x2 y1 y2 :=
  ⟨keptBelow hB h.a1, keptBelow hB h.a2, keptBelow hB h.b1, keptBelow hB h.b2, heap_below hB h.r, heap_below hB h.s, belowVia hB h.bel⟩
def Fin4 (W : World) (p q : Nat) (r1 r2 s1 s2 : Value) : World := ((((W.setCell ⟨p, 0, none⟩ r1).setCell ⟨p, 1, none⟩ r2).setCell ⟨q, 0, none⟩ s1).setCell ⟨q, 1, none⟩ s2)
theorem Box4.res {w W : World} {x1 x2 y1 y2 r1 r2 s1 s2 : Value} (h : Box4 w W x1 x2 y1 y2) :
    (Fin4 W (w.heap.size + 1 + 1) (w.heap.size + 1 + 1 + 1) r1 r2 s1 s2).heap[w.heap.size + 1 + 1]? = some (.cells #[r1, r2] 84 (0, 0)) ∧
    (Fin4 W (w.heap.size + 1 + 1) (w.heap.size + 1 + 1 + 1) r1 r2 s1 s2).heap[w.heap.size + 1 + 1 + 1]? = some (.cells #[s1, s2] 84 (0, 0)) := by
  have h1 := heap_setCell_same W _ 0 _ _ r1 h.r
  have h2 := heap_setCell_same _ _ 1 _ _ r2 h1
  constructor
  · unfold Fin4
    rw [heap_setCell_other _ _ _ _ (show w.heap.size + 1 + 1 ≠ w.heap.size + 1 + 1 + 1 by omega), heap_setCell_other _ _ _ _ (show w.heap.size + 1 + 1 ≠ w.heap.size + 1 + 1 + 1 by omega)]
    exact h2
  · have h3 : ((W.setCell ⟨w.heap.size + 1 + 1, 0, none⟩ r1).setCell ⟨w.heap.size + 1 + 1, 1, none⟩ r2).heap[w.heap.size + 1 + 1 + 1]? = some (.cells #[.bool false, .slice none 0 0] 84 (0, 0)) := by
      rw [heap_setCell_other _ _ _ _ (show w.heap.size + 1 + 1 + 1 ≠ w.heap.size + 1 + 1 by omega), heap_setCell_other _ _ _ _ (show w.heap.size + 1 + 1 + 1 ≠ w.heap.size + 1 + 1 by omega)]
      exact h.s
    have h4 := heap_setCell_same _ _ 0 _ _ s1 h3
    exact heap_setCell_same _ _ 1 _ _ s2 h4
theorem Box4.cells {w W : World} {x1 x2 y1 y2 r1 r2 s1 s2 : Value} {a : Option Addr} {l : List Int} (h : Box4 w W x1 x2 y1 y2) (hc : CellsAt W a l) : CellsAt (Fin4 W (w.heap.size + 1 + 1) (w.heap.size + 1 + 1 + 1) r1 r2 s1 s2) a l := by
  have h1 := cells_res (v := r1) (v2 := r2) hc h.r
  have h3 : ((W.setCell ⟨w.heap.size + 1 + 1, 0, none⟩ r1).setCell ⟨w.heap.size + 1 + 1, 1, none⟩ r2).heap[w.heap.size + 1 + 1 + 1]? = some (.cells #[.bool false, .slice none 0 0] 84 (0, 0)) := by
    rw [heap_setCell_other _ _ _ _ (show w.heap.size + 1 + 1 + 1 ≠ w.heap.size + 1 + 1 by omega), heap_setCell_other _ _ _ _ (show w.heap.size + 1 + 1 + 1 ≠ w.heap.size + 1 + 1 by omega)]
    exact h.s
  exact cells_res h1 h3
theorem Box4.fin {w W : World} {x1 x2 y1 y2 r1 r2 s1 s2 : Value} (h : Box4 w W x1 x2 y1 y2) : Below w.heap.size w (Fin4 W (w.heap.size + 1 + 1) (w.heap.size + 1 + 1 + 1) r1 r2 s1 s2) := below_res (below_res h.bel (by omega) _ _) (by omega) _ _
set_option maxRecDepth 100000 in
set_option maxHeartbeats 4000000 in
theorem ndiv0 (x y : Int) (hx : x.natAbs < 10000 ^ 120) (hy : y.natAbs < 10000 ^ 120) (h0 : y ≠ 0) (hc : ¬ (x < 0 ∧ 0 < x.natAbs % y.natAbs)) (u v : Value) (w : World) (hu : NumAt w u x) (hv : NumAt w v y)  :
    Calls Tryz.prog 73 #[u, v] w fun e w' => (∃ q r, e = .returned (.tuple #[q, r]) ∧ NumAt w' q (x / y) ∧ NumAt w' r (x % y)) ∧ Below w.heap.size w w' := by
  obtain ⟨a, ca, rfl, hra, hca⟩ := hu
  obtain ⟨b, cb, rfl, hrb, hcb⟩ := hv
  have hYp : 0 < y.natAbs := by omega
  have hmod := Nat.mod_lt x.natAbs hYp
  have hdm := Nat.div_add_mod x.natAbs y.natAbs
  have hdm2 : x.natAbs / y.natAbs * y.natAbs = y.natAbs * (x.natAbs / y.natAbs) := Nat.mul_comm _ _
  have hz0 : x < 0 → x.natAbs % y.natAbs = 0 := fun h => Nat.eq_zero_of_not_pos fun k => hc ⟨h, k⟩
  obtain ⟨e1, e2⟩ := nd_pure (x := x) h0 hmod (Q := x.natAbs / y.natAbs) (fun h => by have := hz0 h; omega) (fun h => by omega)
  have HD := Lib.hid (fun W hm => mdiv x.natAbs y.natAbs (up250 hx) (up250 hy) hYp _ _ W (MagAt.via hm (mag_of_num hra hca)) (MagAt.via hm (mag_of_num hrb hcb)))
  have HS1 := Lib.hid (fun sv W hm => signed_any (decide (x < 0) != decide (y < 0)) (x.natAbs / y.natAbs) sv W (Nat.lt_of_le_of_lt (Nat.div_le_self _ _) (up250 hx)) hm)
  have HS2 := Lib.hid (fun sv W hm => signed_any false (x.natAbs % y.natAbs) sv W (Nat.lt_of_le_of_lt (Nat.mod_le _ _) (up250 hx)) hm)
  have e3 : sgn false (x.natAbs % y.natAbs) = x % y := by rw [← e2]; rfl
  rw [e1] at HS1
  rw [e3] at HS2
  have hcond : decide (x < 0) = false ∨ (digsL 10000 (x.natAbs % y.natAbs)).length = 0 := by
    by_cases h : x < 0
    · right
      rw [hz0 h, digsL_zero]; rfl
    · left; simp; omega
  have hlen : ((digsL 10000 (x.natAbs % y.natAbs)).length : Int) ≤ 250 := by have := big_len (Nat.lt_of_le_of_lt (Nat.mod_le x.natAbs y.natAbs) (up250 hx)); omega
  generalize (digsL 10000 x.natAbs).length = n at *
  generalize (digsL 10000 y.natAbs).length = m at *
  generalize digsL 10000 (x.natAbs / y.natAbs) = QL at *
  generalize digsL 10000 (x.natAbs % y.natAbs) = RL at *
  generalize x / y = qz at *
  generalize x % y = rz at *
  generalize decide (x < 0) = sx at *
  generalize decide (y < 0) = sy at *
  clear hz0 hx hy h0 hc hYp hmod hdm hdm2 e1 e2 e3
  by_cases hsx : sx = false
  · subst hsx
    rw [Bool.false_bne] at HS1
    clear hcond
    go_enter Tryz.func73, Tryz.ntmps73
    go_wp2_with fail
    have hbx := box4_made w (.bool false) (.slice a n ca) (.bool sy) (.slice b m cb)
    generalize World.alloc (World.alloc _ _) _ = W at hbx ⊢
    refine (HD.out W hbx.bel).mono ?_
    rintro e w1 ⟨⟨q, r, rfl, hq, hr⟩, hB1⟩
    obtain ⟨aq, cq, rfl, hrq, hcq⟩ := hq
    obtain ⟨ar, cr, rfl, hrr, hcr⟩ := hr
    have hbx := hbx.via hB1
    have ha1 := hbx.a1
    have ha2 := hbx.a2
    have hb1 := hbx.b1
    have hb2 := hbx.b2
    have HBX := Lib.hid hbx
    clear hbx hB1
    go_wp2_with fail
    refine (HS1.out _ _ ⟨aq, cq, rfl, hrq, hcq⟩).mono ?_
    rintro e w3 ⟨⟨v1, rfl, hn1⟩, hB3⟩
    obtain ⟨a8, c8, rfl, hr8, hc8⟩ := hn1
    go_wp2_with fail
    refine (HS2.out _ _ ⟨ar, cr, rfl, hrr, hcr.via hB3⟩).mono ?_
    rintro e w4 ⟨⟨v2, rfl, hn2⟩, hB4⟩
    obtain ⟨a9, c9, rfl, hr9, hc9⟩ := hn2
    have hbx4 := (HBX.out.via hB3).via hB4
    have HC8 := Lib.hid (hc8.via hB4)
    have HC9 := Lib.hid hc9
    have hq1 := (cell_of_row w4 _ 0 _ _ _ hbx4.r).trans rfl
    have hq2 := (cell_of_row w4 _ 1 _ _ _ hbx4.r).trans rfl
    have hf1 := frozen_of_row w4 _ 0 _ _ hbx4.r
    have hf2 := frozen_of_row w4 _ 1 _ _ hbx4.r
    have hq3 := (cell_of_row w4 _ 0 _ _ _ hbx4.s).trans rfl
    have hq4 := (cell_of_row w4 _ 1 _ _ _ hbx4.s).trans rfl
    have hf3 := frozen_of_row w4 _ 0 _ _ hbx4.s
    have hf4 := frozen_of_row w4 _ 1 _ _ hbx4.s
    have HBX4 := Lib.hid hbx4
    clear ha1 ha2 hb1 hb2 HBX hB3 hB4 hc8 hc9 hbx4
    go_wp2_with fail
    refine bodyPost_ret (results_nn rfl _ _ (w.heap.size + 1 + 1) (w.heap.size + 1 + 1 + 1) _ _ _ _ rfl HBX4.out.res.1 rfl HBX4.out.res.2) rfl ?_
    exact ⟨⟨_, _, rfl, ⟨a8, c8, rfl, hr8, HBX4.out.cells HC8.out⟩, ⟨a9, c9, rfl, hr9, HBX4.out.cells HC9.out⟩⟩, HBX4.out.fin⟩
  · obtain rfl : sx = true := by simpa using hsx
    rw [Bool.true_bne] at HS1
    obtain rfl : RL = [] := List.length_eq_zero_iff.1 (hcond.resolve_left hsx)
    clear hcond hlen
    go_enter Tryz.func73, Tryz.ntmps73
    go_wp2_with fail
    have hbx := box4_made w (.bool true) (.slice a n ca) (.bool sy) (.slice b m cb)
    generalize World.alloc (World.alloc _ _) _ = W at hbx ⊢
    refine (HD.out W hbx.bel).mono ?_
    rintro e w1 ⟨⟨q, r, rfl, hq, hr⟩, hB1⟩
    obtain ⟨aq, cq, rfl, hrq, hcq⟩ := hq
    obtain ⟨ar, cr, rfl, hrr, hcr⟩ := hr
    have hbx := hbx.via hB1
    have ha1 := hbx.a1
    have ha2 := hbx.a2
    have hb1 := hbx.b1
    have hb2 := hbx.b2
    have HBX := Lib.hid hbx
    clear hbx hB1
    go_wp2_with fail
    refine (HS1.out _ _ ⟨aq, cq, rfl, hrq, hcq⟩).mono ?_
    rintro e w3 ⟨⟨v1, rfl, hn1⟩, hB3⟩
    obtain ⟨a8, c8, rfl, hr8, hc8⟩ := hn1
    go_wp2_with fail
    refine (HS2.out _ _ ⟨ar, cr, rfl, hrr, hcr.via hB3⟩).mono ?_
    rintro e w4 ⟨⟨v2, rfl, hn2⟩, hB4⟩
    obtain ⟨a9, c9, rfl, hr9, hc9⟩ := hn2
    have hbx4 := (HBX.out.via hB3).via hB4
    have HC8 := Lib.hid (hc8.via hB4)
    have HC9 := Lib.hid hc9
    have hq1 := (cell_of_row w4 _ 0 _ _ _ hbx4.r).trans rfl
    have hq2 := (cell_of_row w4 _ 1 _ _ _ hbx4.r).trans rfl
    have hf1 := frozen_of_row w4 _ 0 _ _ hbx4.r
    have hf2 := frozen_of_row w4 _ 1 _ _ hbx4.r
    have hq3 := (cell_of_row w4 _ 0 _ _ _ hbx4.s).trans rfl
    have hq4 := (cell_of_row w4 _ 1 _ _ _ hbx4.s).trans rfl
    have hf3 := frozen_of_row w4 _ 0 _ _ hbx4.s
    have hf4 := frozen_of_row w4 _ 1 _ _ hbx4.s
    have HBX4 := Lib.hid hbx4
    clear ha1 ha2 hb1 hb2 HBX hB3 hB4 hc8 hc9 hbx4
    go_wp2_with fail
    refine bodyPost_ret (results_nn rfl _ _ (w.heap.size + 1 + 1) (w.heap.size + 1 + 1 + 1) _ _ _ _ rfl HBX4.out.res.1 rfl HBX4.out.res.2) rfl ?_
    exact ⟨⟨_, _, rfl, ⟨a8, c8, rfl, hr8, HBX4.out.cells HC8.out⟩, ⟨a9, c9, rfl, hr9, HBX4.out.cells HC9.out⟩⟩, HBX4.out.fin⟩
theorem digsL_one : digsL 10000 1 = [1] := by rw [digsL_pos (by decide) (by decide), show 1 / 10000 = 0 from rfl, digsL_zero]
theorem one_at (W : World) : MagAt (W.alloc (.cells #[.int .i64 1] 3)) (.slice (some ⟨W.heap.size, 0, none⟩) 1 1) (digsL 10000 1) := by
  rw [digsL_one]
  refine ⟨_, 1, rfl, ⟨Nat.le_refl _, by omega⟩, .inr ⟨W.heap.size, 0, rfl, fun j hj => ?_⟩⟩
  have : j = 0 := by simp [ofN] at hj; exact hj
  subst this
  exact cell_box W (.int .i64 1) _
set_option maxRecDepth 100000 in
set_option maxHeartbeats 4000000 in
theorem ndiv1 (x y : Int) (hx : x.natAbs < 10000 ^ 120) (hy : y.natAbs < 10000 ^ 120) (h0 : y ≠ 0) (hc : x < 0 ∧ 0 < x.natAbs % y.natAbs) (u v : Value) (w : World) (hu : NumAt w u x) (hv : NumAt w v y)  :
    Calls Tryz.prog 73 #[u, v] w fun e w' => (∃ q r, e = .returned (.tuple #[q, r]) ∧ NumAt w' q (x / y) ∧ NumAt w' r (x % y)) ∧ Below w.heap.size w w' := by
  obtain ⟨a, ca, rfl, hra, hca⟩ := hu
  obtain ⟨b, cb, rfl, hrb, hcb⟩ := hv
  have hYp : 0 < y.natAbs := by omega
  have hmod := Nat.mod_lt x.natAbs hYp
  have hdm := Nat.div_add_mod x.natAbs y.natAbs
  have hdm2 : (x.natAbs / y.natAbs + 1) * y.natAbs = y.natAbs * (x.natAbs / y.natAbs) + y.natAbs := by rw [Nat.add_mul, Nat.mul_comm, Nat.one_mul]
  obtain ⟨e1, e2⟩ := nd_pure (x := x) (R := y.natAbs - x.natAbs % y.natAbs) h0 (by omega) (Q := x.natAbs / y.natAbs + 1) (fun h => by omega) (fun h => absurd hc.1 h)
  have hXY : x.natAbs / y.natAbs < 10000 ^ 120 := Nat.lt_of_le_of_lt (Nat.div_le_self _ _) hx
  have hX1 : x.natAbs / y.natAbs + 1 < 10000 ^ 250 := Nat.lt_of_lt_of_le (show _ < 10000 ^ 121 by rw [Nat.pow_succ]; omega) (Nat.pow_le_pow_right (by decide) (by decide))
  have h1b : (1 : Nat) < 10000 ^ 250 := Nat.lt_of_lt_of_le (show 1 < 10000 ^ 1 by decide) (Nat.pow_le_pow_right (by decide) (by decide))
  have HD := Lib.hid (fun W hm => mdiv x.natAbs y.natAbs (up250 hx) (up250 hy) hYp _ _ W (MagAt.via hm (mag_of_num hra hca)) (MagAt.via hm (mag_of_num hrb hcb)))
  have HP := Lib.hid (fun u v W hu hv => mplus (x.natAbs / y.natAbs) 1 (up250 hXY) h1b u v W hu hv)
  have HM := Lib.hid (fun v W hm hv => mminus y.natAbs (x.natAbs % y.natAbs) (up250 hy) (Nat.le_of_lt hmod) _ v W (MagAt.via hm (mag_of_num hrb hcb)) hv)
  have HS1 := Lib.hid (fun sv W hm => signed_any (decide (x < 0) != decide (y < 0)) (x.natAbs / y.natAbs + 1) sv W hX1 hm)
  have HS2 := Lib.hid (fun sv W hm => signed_any false (y.natAbs - x.natAbs % y.natAbs) sv W (Nat.lt_of_le_of_lt (Nat.sub_le _ _) (up250 hy)) hm)
  have e3 : sgn false (y.natAbs - x.natAbs % y.natAbs) = x % y := by rw [← e2]; rfl
  rw [e1] at HS1
  rw [e3] at HS2
  have hlen : ((digsL 10000 (x.natAbs % y.natAbs)).length : Int) ≤ 250 := by have := big_len (Nat.lt_of_le_of_lt (Nat.mod_le x.natAbs y.natAbs) (up250 hx)); omega
  have hlp : (0 : Int) < (digsL 10000 (x.natAbs % y.natAbs)).length := by
    have h1 : digsL 10000 (x.natAbs % y.natAbs) ≠ [] := fun e => by have := digsL_nil e; omega
    have := List.length_pos_iff.2 h1; omega
  have e4 : decide (x < 0) = true := by simp [hc.1]
  rw [e4] at HS1 ⊢
  rw [Bool.true_bne] at HS1
  generalize (digsL 10000 x.natAbs).length = n at *
  generalize (digsL 10000 y.natAbs).length = m at *
  generalize digsL 10000 (x.natAbs / y.natAbs + 1) = Q1 at *
  generalize digsL 10000 (y.natAbs - x.natAbs % y.natAbs) = R1 at *
  generalize digsL 10000 (x.natAbs / y.natAbs) = QL at *
  generalize digsL 10000 (x.natAbs % y.natAbs) = RL at *
  generalize x / y = qz at *
  generalize x % y = rz at *
  generalize decide (y < 0) = sy at *
  clear hx hy h0 hc hYp hmod hdm hdm2 e1 e2 e3 e4 hXY hX1 h1b
  go_enter Tryz.func73, Tryz.ntmps73
  go_wp2_with fail
  have hbx := box4_made w (.bool true) (.slice a n ca) (.bool sy) (.slice b m cb)
  generalize World.alloc (World.alloc _ _) _ = W at hbx ⊢
  refine (HD.out W hbx.bel).mono ?_
  rintro e w1 ⟨⟨q, r, rfl, hq, hr⟩, hB1⟩
  have HQ := Lib.hid hq
  have HR := Lib.hid hr
  obtain ⟨aq, cq, rfl, _, _⟩ := hq
  obtain ⟨ar, cr, rfl, _, _⟩ := hr
  have hbx := hbx.via hB1
  have ha1 := hbx.a1
  have ha2 := hbx.a2
  have hb1 := hbx.b1
  have hb2 := hbx.b2
  have HBX := Lib.hid hbx
  clear hbx hB1
  go_wp2_with fail
  go_region_held3 (fun w' => w'.cell? ⟨w.heap.size + 1, 1, none⟩ = some (.slice b m cb)) (first | exact hb2 | exact cellA _ hb2 | exact keptBelow hC2 (cellA _ hb2) | exact keptBelow hC3 (keptBelow hC2 (cellA _ hb2))) (first
    | (go_at_call 101; (with_reducible refine (HP.out _ _ _ ?_ ?_).mono ?_); exact MagAt.via (undrew (alloc_below _ _)) HQ.out; exact one_at _; rintro e w2 ⟨⟨r1, rfl, hm1⟩, hC2⟩)
    | (go_at_call 102; (with_reducible refine (HM.out _ _ ?_ ?_).mono ?_); exact belowVia hC2 (belowVia (undrew (alloc_below _ _)) HBX.out.bel); exact MagAt.via hC2 (MagAt.via (undrew (alloc_below _ _)) HR.out); rintro e w2b ⟨⟨r2, rfl, hm2⟩, hC3⟩))
  have hbx3 := ((HBX.out.via (undrew (alloc_below _ _))).via hC2).via hC3
  have HBX2 := Lib.hid hbx3
  have HM1 := Lib.hid (hm1.via hC3)
  have HM2 := Lib.hid hm2
  clear hbx3 hm1 hm2 hC2 hC3 ha1 ha2 hb1 hb2 HBX HQ HR HD HP HM
  have ha1 := HBX2.out.a1
  have hb1 := HBX2.out.b1
  go_wp2_with fail
  refine (HS1.out _ _ HM1.out).mono ?_
  rintro e w3 ⟨⟨v1, rfl, hn1⟩, hB3⟩
  obtain ⟨a8, c8, rfl, hr8, hc8⟩ := hn1
  go_wp2_with fail
  refine (HS2.out _ _ (HM2.out.via hB3)).mono ?_
  rintro e w4 ⟨⟨v2, rfl, hn2⟩, hB4⟩
  obtain ⟨a9, c9, rfl, hr9, hc9⟩ := hn2
  have hbx4 := (HBX2.out.via hB3).via hB4
  have HC8 := Lib.hid (hc8.via hB4)
  have HC9 := Lib.hid hc9
  have hq1 := (cell_of_row w4 _ 0 _ _ _ hbx4.r).trans rfl
  have hq2 := (cell_of_row w4 _ 1 _ _ _ hbx4.r).trans rfl
  have hf1 := frozen_of_row w4 _ 0 _ _ hbx4.r
  have hf2 := frozen_of_row w4 _ 1 _ _ hbx4.r
  have hq3 := (cell_of_row w4 _ 0 _ _ _ hbx4.s).trans rfl
  have hq4 := (cell_of_row w4 _ 1 _ _ _ hbx4.s).trans rfl
  have hf3 := frozen_of_row w4 _ 0 _ _ hbx4.s
  have hf4 := frozen_of_row w4 _ 1 _ _ hbx4.s
  have HBX4 := Lib.hid hbx4
  clear ha1 hb1 HBX2 hB3 hB4 hc8 hc9 hbx4
  go_wp2_with fail
  refine bodyPost_ret (results_nn rfl _ _ (w.heap.size + 1 + 1) (w.heap.size + 1 + 1 + 1) _ _ _ _ rfl HBX4.out.res.1 rfl HBX4.out.res.2) rfl ?_
  exact ⟨⟨_, _, rfl, ⟨a8, c8, rfl, hr8, HBX4.out.cells HC8.out⟩, ⟨a9, c9, rfl, hr9, HBX4.out.cells HC9.out⟩⟩, HBX4.out.fin⟩
theorem ndiv (x y : Int) (hx : x.natAbs < 10000 ^ 120) (hy : y.natAbs < 10000 ^ 120) (h0 : y ≠ 0) (u v : Value) (w : World) (hu : NumAt w u x) (hv : NumAt w v y)  :
    Calls Tryz.prog 73 #[u, v] w fun e w' => (∃ q r, e = .returned (.tuple #[q, r]) ∧ NumAt w' q (x / y) ∧ NumAt w' r (x % y)) ∧ Below w.heap.size w w' := by
  by_cases hc : x < 0 ∧ 0 < x.natAbs % y.natAbs
  · exact ndiv1 x y hx hy h0 hc u v w hu hv
  · exact ndiv0 x y hx hy h0 hc u v w hu hv
end Go.Proofs.YtippeffbdjjcfaaGreatDoor
/- IntValid: The contract of Valid. -/
namespace Go.Proofs.YtippeffbdjjcfaaGreatDoor
open Go.RowKit Putlog

theorem trim_minus (l : List UInt8) : Lib.trimPrefix l [45] = if l.head? = some 45 then l.tail else l := by
  cases l with
  | nil => rfl
  | cons c t =>
    by_cases h : c = 45
    · subst h; simp [Lib.trimPrefix, Lib.hasPrefix]
    · simp [Lib.trimPrefix, Lib.hasPrefix, h]
      intro h2; exact absurd h2.symm h
theorem validT_form (l : List UInt8) (h0 : l ≠ [48]) : validT l = ((Lib.trimPrefix l [45]).all isDigB && !(Lib.trimPrefix l [45]).isEmpty && decide ((Lib.trimPrefix l [45]).length ≤ 200) && !((Lib.trimPrefix l [45]).head? == some 48)) := by
  rw [trim_minus]
  unfold validT
  split
  · rfl
  · have : (l == [48]) = false := by simpa using h0
    rw [this, Bool.false_or]
theorem hasPrefix_minus (l : List UInt8) : Lib.hasPrefix l [45] = decide (l.head? = some 45) := by
  cases l with
  | nil => rfl
  | cons c t =>
    by_cases h : c = 45
    · subst h; simp [Lib.hasPrefix]
    · have : ((45 : UInt8) == c) = false := by rw [beq_eq_false_iff_ne]; exact fun e => h e.symm
      simp [Lib.hasPrefix, List.isPrefixOf, this, h]
theorem not_dig {l : List UInt8} {k : Nat} (h : k < l.length) (hd : ¬ IsDig l[k]) : l.all isDigB = false := by
  rw [Bool.eq_false_iff]
  intro h2
  exact hd ((all_isDigB l).1 h2 _ (List.getElem_mem h))
set_option maxRecDepth 100000 in
set_option maxHeartbeats 4000000 in
theorem valid_any (s : ByteArray) (hs : (s.size : Int) ≤ 9223372036854775807) (w : World) :
    Calls Tryz.prog 111 #[.string s] w fun e w' => e = .returned (.bool (validT s.data.toList)) ∧ w' = w := by
  by_cases h0 : s.data.toList = [48]
  · have e1 : (s.toList == [48]) = true := by rw [ByteArray.toList_eq, h0]; rfl
    have e2 : validT s.data.toList = true := by rw [h0]; decide
    rw [e2]
    clear h0 e2
    go_enter Tryz.func111, Tryz.ntmps111
    go_wp2_with fail
    go_ret
    exact ⟨rfl, rfl⟩
  · have e1 : (s.toList == [48]) = false := by rw [ByteArray.toList_eq]; simpa using h0
    have HV := Lib.hid (validT_form s.data.toList h0)
    have hT := Tryz.strings_TrimPrefix s ⟨#[45]⟩
    simp only at hT
    obtain ⟨d, hd⟩ : ∃ d : ByteArray, d = ⟨(Lib.trimPrefix s.data.toList [45]).toArray⟩ := ⟨_, rfl⟩
    have hdl : d.data.toList = Lib.trimPrefix s.data.toList [45] := by rw [hd]
    rw [← hd] at hT
    rw [← hdl] at HV
    have hds : (d.size : Int) ≤ 9223372036854775807 := by
      have h1 : d.size = d.data.toList.length := by rw [Array.length_toList]; rfl
      have h2 : s.size = s.data.toList.length := by rw [Array.length_toList]; rfl
      have h3 : d.data.toList.length ≤ s.data.toList.length := by
        rw [hdl, trim_minus]; split
        · simp
        · exact Nat.le_refl _
      omega
    have HT := Lib.hid hT
    have hsz : d.data.toList.length = d.size := by rw [Array.length_toList]; rfl
    rw [HV.out]
    clear h0 hT hd hdl HV
    by_cases c0 : d.data.toList = []
    · have e2 : (d.toList == []) = true := by rw [ByteArray.toList_eq, c0]; rfl
      have e3 : (d.data.toList.all isDigB && !d.data.toList.isEmpty && decide (d.data.toList.length ≤ 200) && !(d.data.toList.head? == some 48)) = false := by rw [c0]; rfl
      rw [e3]
      clear e3 c0 hsz
      go_enter Tryz.func111, Tryz.ntmps111
      go_wp2_with fail
      refine (HT.out w).mono ?_
      rintro e w1 ⟨rfl, rfl⟩
      go_wp2_with fail
      go_ret
      exact ⟨rfl, rfl⟩
    · have e2 : (d.toList == []) = false := by rw [ByteArray.toList_eq]; simpa using c0
      have hpos : 0 < d.size := by have := List.length_pos_iff.2 c0; omega
      by_cases c1 : 200 < d.size
      · have e3 : (d.data.toList.all isDigB && !d.data.toList.isEmpty && decide (d.data.toList.length ≤ 200) && !(d.data.toList.head? == some 48)) = false := by
          rw [hsz]; simp; intros; omega
        rw [e3]
        have c1' : (200 : Int) < d.size := by omega
        clear e3 c0 hsz c1
        go_enter Tryz.func111, Tryz.ntmps111
        go_wp2_with fail
        refine (HT.out w).mono ?_
        rintro e w1 ⟨rfl, rfl⟩
        go_wp2_with fail
        go_ret
        exact ⟨rfl, rfl⟩
      · have c1' : ¬ (200 : Int) < d.size := by omega
        have hgd : ∀ k (h : k < d.size), ∃ h2 : k < d.data.toList.length, d[k] = d.data.toList[k]'h2 := fun k h => ⟨by omega, by simp [ByteArray.getElem_eq_getElem_data]⟩
        have hh : d.data.toList.head? = some d[0] := by
          obtain ⟨h2, h3⟩ := hgd 0 hpos
          rw [h3, List.head?_eq_getElem?, List.getElem?_eq_getElem h2]
        have hp' : (0 : Int) < d.size := by omega
        by_cases c2 : d[0] = 48
        · have e3 : (d.data.toList.all isDigB && !d.data.toList.isEmpty && decide (d.data.toList.length ≤ 200) && !(d.data.toList.head? == some 48)) = false := by
            rw [hh, c2]; simp
          rw [e3]
          have e4 : (((d[0]).toNat : Int) == 48) = true := by rw [c2]; rfl
          clear e3 c0 hsz c1 hh hgd c2
          go_enter Tryz.func111, Tryz.ntmps111
          go_wp2_with fail
          refine (HT.out w).mono ?_
          rintro e w1 ⟨rfl, rfl⟩
          go_wp2_with fail
          go_ret
          exact ⟨rfl, rfl⟩
        · have e4 : (((d[0]).toNat : Int) == 48) = false := by
            simp
            intro h
            exact c2 (UInt8.toNat_inj.1 (by rw [show (48 : UInt8).toNat = 48 from rfl]; omega))
          have e3 : (d.data.toList.all isDigB && !d.data.toList.isEmpty && decide (d.data.toList.length ≤ 200) && !(d.data.toList.head? == some 48)) = d.data.toList.all isDigB := by
            have h1 : (d.data.toList.head? == some 48) = false := by rw [hh]; simpa using c2
            have h2 : d.data.toList.isEmpty = false := by simpa using c0
            rw [h1, h2, hsz]; simp; omega
          rw [e3]
          obtain ⟨bb, hbb⟩ : ∃ bb, bb = d.data.toList.all isDigB := ⟨_, rfl⟩
          rw [← hbb]
          have HBB := Lib.hid hbb
          have HG := Lib.hid hgd
          have HZ := Lib.hid hsz
          clear hbb
          clear e3 c0 hsz c1 hh hgd c2
          go_enter Tryz.func111, Tryz.ntmps111
          go_wp2_with fail
          refine (HT.out w).mono ?_
          rintro e w1 ⟨rfl, rfl⟩
          go_wp2_with fail
          go_loopw [23] (fun i wr => ∃ k : Nat, k ≤ d.size ∧ i = .int .i64 k ∧ wr = w1 ∧ ∀ j (h : j < d.data.toList.length), j < k → IsDig (d.data.toList[j]'h)) (fun i _ => d.size - (intOf i).toNat)
          case atStart => exact ⟨0, by omega, rfl, rfl, fun j _ h => by omega⟩
          case round =>
            obtain ⟨k, hk, rfl, rfl, hdig⟩ := hrel
            have HDG := Lib.hid hdig
            clear hdig
            by_cases hlt : k < d.size
            · have hlt' : (k : Int) < d.size := by omega
              obtain ⟨h2, h3⟩ := HG.out k hlt
              by_cases hdx : IsDig d[k]
              · have b1 : (48 : Int) ≤ (d[k]).toNat := by have := hdx.1; omega
                have b2 : ((d[k]).toNat : Int) ≤ 57 := by have := hdx.2; omega
                have HN : Hid (∀ j (h : j < d.data.toList.length), j < k + 1 → IsDig (d.data.toList[j]'h)) := fun j h hj => by
                  rcases Nat.lt_or_ge j k with h4 | h4
                  · exact HDG.out j h h4
                  · have : j = k := by omega
                    subst this
                    rw [← h3]; exact hdx
                clear hdx h3
                go_wp2_with fail
                exact ⟨⟨k + 1, by omega, by go_num, trivial, HN.out⟩, by simp [intOf]; omega⟩
              · have HF := Lib.hid (HBB.out.trans (not_dig h2 (by rw [← h3]; exact hdx)))
                have hor : ((d[k]).toNat : Int) < 48 ∨ (57 : Int) < (d[k]).toNat := by unfold IsDig at hdx; omega
                rcases hor with hor | hor
                · clear hdx h3
                  go_wp2_with fail
                  go_ret
                  exact ⟨congrArg (fun b => Ending.returned (Value.bool b)) HF.out.symm, rfl⟩
                · have b3 : ¬ ((d[k]).toNat : Int) < 48 := by omega
                  clear hdx h3
                  go_wp2_with fail
                  go_ret
                  exact ⟨congrArg (fun b => Ending.returned (Value.bool b)) HF.out.symm, rfl⟩
            · obtain rfl : k = d.size := by omega
              have hall : d.data.toList.all isDigB = true := (all_isDigB _).2 fun c hc => by
                obtain ⟨j, hj, rfl⟩ := List.mem_iff_getElem.1 hc
                exact HDG.out j hj (by rw [← HZ.out]; exact hj)
              have HF := Lib.hid (HBB.out.trans hall)
              clear hall
              go_wp2_with fail
              go_ret
              exact ⟨congrArg (fun b => Ending.returned (Value.bool b)) HF.out.symm, rfl⟩
end Go.Proofs.YtippeffbdjjcfaaGreatDoor
/- IntRead2: The contracts of read and readBoth. -/
namespace Go.Proofs.YtippeffbdjjcfaaGreatDoor
open Go.RowKit Putlog

theorem fits_big {z : Int} (h : Fits z) : z.natAbs < 10000 ^ 50 := by
  have : (10000 : Nat) ^ 50 = 10 ^ 200 := by rw [show (10000 : Nat) = 10 ^ 4 from rfl, ← Nat.pow_mul]
  rw [this]; exact h
theorem fits120 {z : Int} (h : Fits z) : z.natAbs < 10000 ^ 120 := Nat.lt_of_lt_of_le (fits_big h) (Nat.pow_le_pow_right (by decide) (by decide))
theorem fits250 {z : Int} (h : Fits z) : z.natAbs < 10000 ^ 250 := up250 (fits120 h)
theorem intT_trim (z : Int) : Lib.trimPrefix (intT z) [45] = natT z.natAbs := by
  rw [trim_minus]
  unfold intT
  by_cases h : z < 0
  · rw [if_pos h]; rfl
  · rw [if_neg h, if_neg (natT_head_dig _)]
theorem intT_has (z : Int) : Lib.hasPrefix (intT z) [45] = decide (z < 0) := by
  rw [hasPrefix_minus]
  unfold intT
  by_cases h : z < 0
  · rw [if_pos h]; simp [h]
  · rw [if_neg h]; simp [h, natT_head_dig]
theorem sgn_self (z : Int) : sgn (decide (z < 0)) z.natAbs = z := by
  unfold sgn
  by_cases h : z < 0
  · simp [h]; omega
  · simp [h]; omega
theorem intB_list (z : Int) : (intB z).data.toList = intT z := by simp [intB]
/-- The box of a result alone. -/
structure Box1 (w W : World) : Prop where
  r : W.heap[w.heap.size]? = some (.cells #[.bool false, .slice none 0 0] 84 (0, 0))
  bel : Below w.heap.size w W
theorem box1_made (w : World) : Box1 w (w.alloc (.cells #[.bool false, .slice none 0 0] 84)) := ⟨heap_alloc_new w _, alloc_below w _⟩
theorem Box1.via {w W W' : World} (hB : Below W.heap.size W W') (h : Box1 w W) : Box1 w W' := ⟨heap_below hB h.r, belowVia hB h.bel⟩
theorem Box1.res {w W : World} {r1 r2 : Value} (h : Box1 w W) : ((W.setCell ⟨w.heap.size, 0, none⟩ r1).setCell ⟨w.heap.size, 1, none⟩ r2).heap[w.heap.size]? = some (.cells #[r1, r2] 84 (0, 0)) := by
  have h1 := heap_setCell_same W _ 0 _ _ r1 h.r
  exact heap_setCell_same _ _ 1 _ _ r2 h1
set_option maxRecDepth 100000 in
set_option maxHeartbeats 4000000 in
theorem read_ok (z : Int) (hz : Fits z) (w : World) :
    Calls Tryz.prog 99 #[.string (intB z)] w fun e w' => (∃ v, e = .returned (.tuple #[v, .bool true]) ∧ NumAt w' v z) ∧ Below w.heap.size w w' := by
  have hsz := intT_size hz (by decide)
  have hV := valid_any (intB z) (by omega)
  have hv1 : validT (intB z).data.toList = true := by rw [intB_list]; exact (validT_int z).2 hz
  rw [hv1] at hV
  have hC := Tryz.strings_CutPrefix (intB z) ⟨#[45]⟩
  rw [intB_list] at hC
  simp only [intT_trim, intT_has] at hC
  obtain ⟨d, hd⟩ : ∃ d : ByteArray, d = ⟨(natT z.natAbs).toArray⟩ := ⟨_, rfl⟩
  have hdl : d.data.toList = natT z.natAbs := by rw [hd]
  rw [← hd] at hC
  have hR := fun W => readM_any d (by rw [hdl]; exact natT_dig _) (by
    rw [hd]; show (natT z.natAbs).toArray.size ≤ 1000
    rw [List.size_toArray]
    have := (natT_len z.natAbs 200 (by decide)).2 hz
    omega) W
  rw [hdl, natT_val] at hR
  have hS := fun sv W hm => signed_any (decide (z < 0)) z.natAbs sv W (fits250 hz) hm
  rw [sgn_self] at hS
  have HV := Lib.hid hV
  have HC := Lib.hid hC
  have HR := Lib.hid hR
  have HS := Lib.hid hS
  generalize decide (z < 0) = sz at *
  generalize intB z = s at *
  clear hz hsz hV hv1 hC hd hdl hR hS
  go_enter Tryz.func99, Tryz.ntmps99
  go_wp2_with fail
  have hbx := box1_made w
  generalize World.alloc _ _ = W at hbx ⊢
  refine (HV.out W).mono ?_
  rintro e w1 ⟨rfl, rfl⟩
  go_wp2_with fail
  refine (HC.out w1).mono ?_
  rintro e w2 ⟨rfl, rfl⟩
  go_wp2_with fail
  refine (HR.out w2).mono ?_
  rintro e w3 ⟨⟨v3, rfl, hm3⟩, hB3⟩
  go_wp2_with fail
  refine (HS.out _ _ hm3).mono ?_
  rintro e w4 ⟨⟨v4, rfl, hn4⟩, hB4⟩
  obtain ⟨a9, c9, rfl, hr9, hc9⟩ := hn4
  have hbx2 := (hbx.via hB3).via hB4
  have hq1 := (cell_of_row w4 _ 0 _ _ _ hbx2.r).trans rfl
  have hq2 := (cell_of_row w4 _ 1 _ _ _ hbx2.r).trans rfl
  have hf1 := frozen_of_row w4 _ 0 _ _ hbx2.r
  have hf2 := frozen_of_row w4 _ 1 _ _ hbx2.r
  clear hbx hB3 hB4 hm3
  go_wp2_with fail
  refine bodyPost_ret (results_nt rfl _ _ (w.heap.size) _ _ rfl hbx2.res) rfl ?_
  exact ⟨⟨_, rfl, a9, c9, rfl, hr9, cells_res hc9 hbx2.r⟩, below_res hbx2.bel (by omega) _ _⟩
set_option maxRecDepth 100000 in
set_option maxHeartbeats 4000000 in
theorem read_no (s : ByteArray) (hs : (s.size : Int) ≤ 9223372036854775807) (hv : validT s.data.toList = false) (w : World) :
    Calls Tryz.prog 99 #[.string s] w fun e w' => e = .returned (.tuple #[.agg #[.bool false, .slice none 0 0], .bool false]) ∧ Below w.heap.size w w' := by
  have hV := valid_any s hs
  rw [hv] at hV
  have HV := Lib.hid hV
  clear hV hv
  go_enter Tryz.func99, Tryz.ntmps99
  go_wp2_with fail
  have hbx := box1_made w
  generalize World.alloc _ _ = W at hbx ⊢
  refine (HV.out W).mono ?_
  rintro e w4 ⟨rfl, rfl⟩
  have hq1 := (cell_of_row w4 _ 0 _ _ _ hbx.r).trans rfl
  have hq2 := (cell_of_row w4 _ 1 _ _ _ hbx.r).trans rfl
  have hf1 := frozen_of_row w4 _ 0 _ _ hbx.r
  have hf2 := frozen_of_row w4 _ 1 _ _ hbx.r
  go_wp2_with fail
  refine bodyPost_ret (results_nt rfl _ _ (w.heap.size) _ _ rfl hbx.res) rfl ?_
  exact ⟨rfl, below_res hbx.bel (by omega) _ _⟩
end Go.Proofs.YtippeffbdjjcfaaGreatDoor
/- IntBoth: The contract of readBoth. -/
namespace Go.Proofs.YtippeffbdjjcfaaGreatDoor
open Go.RowKit Putlog

/-- The boxes of two results. -/
structure BoxR (w W : World) : Prop where
  r : W.heap[w.heap.size]? = some (.cells #[.bool false, .slice none 0 0] 84 (0, 0))
  s : W.heap[w.heap.size + 1]? = some (.cells #[.bool false, .slice none 0 0] 84 (0, 0))
  bel : Below w.heap.size w W
theorem boxR_made (w : World) : BoxR w ((w.alloc (.cells #[.bool false, .slice none 0 0] 84)).alloc (.cells #[.bool false, .slice none 0 0] 84)) := by
  have h := box2_made w (.bool false) (.slice none 0 0)
  have h1 := heap_alloc_new w (.cells #[.bool false, .slice none 0 0] 84)
  exact ⟨heap_below (alloc_below _ _) h1, h.r, h.bel⟩
theorem BoxR.via {w W W' : World} (hB : Below W.heap.size W W') (h : BoxR w W) : BoxR w W' := ⟨heap_below hB h.r, heap_below hB h.s, belowVia hB h.bel⟩
theorem BoxR.res {w W : World} {r1 r2 s1 s2 : Value} (h : BoxR w W) :
    (Fin4 W w.heap.size (w.heap.size + 1) r1 r2 s1 s2).heap[w.heap.size]? = some (.cells #[r1, r2] 84 (0, 0)) ∧
    (Fin4 W w.heap.size (w.heap.size + 1) r1 r2 s1 s2).heap[w.heap.size + 1]? = some (.cells #[s1, s2] 84 (0, 0)) := by
  have h1 := heap_setCell_same W _ 0 _ _ r1 h.r
  have h2 := heap_setCell_same _ _ 1 _ _ r2 h1
  constructor
  · unfold Fin4
    rw [heap_setCell_other _ _ _ _ (show w.heap.size ≠ w.heap.size + 1 by omega), heap_setCell_other _ _ _ _ (show w.heap.size ≠ w.heap.size + 1 by omega)]
    exact h2
  · have h3 : ((W.setCell ⟨w.heap.size, 0, none⟩ r1).setCell ⟨w.heap.size, 1, none⟩ r2).heap[w.heap.size + 1]? = some (.cells #[.bool false, .slice none 0 0] 84 (0, 0)) := by
      rw [heap_setCell_other _ _ _ _ (show w.heap.size + 1 ≠ w.heap.size by omega), heap_setCell_other _ _ _ _ (show w.heap.size + 1 ≠ w.heap.size by omega)]
      exact h.s
    have h4 := heap_setCell_same _ _ 0 _ _ s1 h3
    exact heap_setCell_same _ _ 1 _ _ s2 h4
theorem BoxR.cells {w W : World} {r1 r2 s1 s2 : Value} {a : Option Addr} {l : List Int} (h : BoxR w W) (hc : CellsAt W a l) : CellsAt (Fin4 W w.heap.size (w.heap.size + 1) r1 r2 s1 s2) a l := by
  have h1 := cells_res (v := r1) (v2 := r2) hc h.r
  have h3 : ((W.setCell ⟨w.heap.size, 0, none⟩ r1).setCell ⟨w.heap.size, 1, none⟩ r2).heap[w.heap.size + 1]? = some (.cells #[.bool false, .slice none 0 0] 84 (0, 0)) := by
    rw [heap_setCell_other _ _ _ _ (show w.heap.size + 1 ≠ w.heap.size by omega), heap_setCell_other _ _ _ _ (show w.heap.size + 1 ≠ w.heap.size by omega)]
    exact h.s
  exact cells_res h1 h3
theorem BoxR.fin {w W : World} {r1 r2 s1 s2 : Value} (h : BoxR w W) : Below w.heap.size w (Fin4 W w.heap.size (w.heap.size + 1) r1 r2 s1 s2) := below_res (below_res h.bel (Nat.le_refl _) _ _) (by omega) _ _
theorem heap_cells {W : World} {p : Nat} {x y : Value} (h : W.heap[p]? = some (.cells #[x, y] 84 (0, 0))) : W.cell? ⟨p, 0, none⟩ = some x ∧ W.cell? ⟨p, 1, none⟩ = some y ∧ W.frozen? ⟨p, 0, none⟩ = false ∧ W.frozen? ⟨p, 1, none⟩ = false :=
  ⟨(cell_of_row W p 0 _ _ _ h).trans rfl, (cell_of_row W p 1 _ _ _ h).trans rfl, frozen_of_row W p 0 _ _ h, frozen_of_row W p 1 _ _ h⟩
set_option maxRecDepth 100000 in
set_option maxHeartbeats 4000000 in
theorem both_ok (x y : Int) (hx : Fits x) (hy : Fits y) (w : World) :
    Calls Tryz.prog 71 #[.string (intB x), .string (intB y)] w fun e w' => (∃ u v, e = .returned (.tuple #[u, v, .bool true]) ∧ NumAt w' u x ∧ NumAt w' v y) ∧ Below w.heap.size w w' := by
  have HX := Lib.hid (read_ok x hx)
  have HY := Lib.hid (read_ok y hy)
  generalize intB x = s at *
  generalize intB y = t at *
  clear hx hy
  go_enter Tryz.func71, Tryz.ntmps71
  go_wp2_with fail
  have hbx := boxR_made w
  generalize World.alloc (World.alloc _ _) _ = W at hbx ⊢
  refine (HX.out W).mono ?_
  rintro e w1 ⟨⟨v1, rfl, hn1⟩, hB1⟩
  obtain ⟨a8, c8, rfl, hr8, hc8⟩ := hn1
  have hbx := hbx.via hB1
  have hbx1 := hbx
  go_wp2_with fail
  have h7 := heap_alloc_new w1 (.cells #[.bool (decide (x < 0)), .slice a8 (digsL 10000 x.natAbs).length c8] 84)
  have b7 := alloc_below w1 (.cells #[.bool (decide (x < 0)), .slice a8 (digsL 10000 x.natAbs).length c8] 84)
  generalize w1.alloc (.cells #[.bool (decide (x < 0)), .slice a8 (digsL 10000 x.natAbs).length c8] 84) = w2 at *
  have hbx := hbx.via b7
  have hc8 := hc8.via b7
  have h7' := h7
  refine (HY.out w2).mono ?_
  rintro e w3 ⟨⟨v3, rfl, hn3⟩, hB3⟩
  obtain ⟨a9, c9, rfl, hr9, hc9⟩ := hn3
  have hbx := hbx.via hB3
  have hc8 := hc8.via hB3
  have h7 := heap_below hB3 h7
  go_wp2_with fail
  have h9 := heap_alloc_new w3 (.cells #[.bool (decide (y < 0)), .slice a9 (digsL 10000 y.natAbs).length c9] 84)
  have b9 := alloc_below w3 (.cells #[.bool (decide (y < 0)), .slice a9 (digsL 10000 y.natAbs).length c9] 84)
  generalize w3.alloc (.cells #[.bool (decide (y < 0)), .slice a9 (digsL 10000 y.natAbs).length c9] 84) = w4 at *
  have hbx := hbx.via b9
  have hc8 := hc8.via b9
  have hc9 := hc9.via b9
  have h7 := heap_below b9 h7
  have s1 : w.heap.size + 1 < w1.heap.size := by
    have := (Array.getElem?_eq_some_iff.1 hbx1.s).1; omega
  have s3 : w1.heap.size < w3.heap.size := by have := hB3.size; have := b7.size; have := lt_of_cell (heap_cells h7').1; omega
  obtain ⟨k1, k2, _, _⟩ := heap_cells h7
  obtain ⟨k3, k4, _, _⟩ := heap_cells h9
  obtain ⟨q1, q2, f1, f2⟩ := heap_cells hbx.r
  obtain ⟨q3, q4, f3, f4⟩ := heap_cells hbx.s
  have HBX := Lib.hid hbx
  have HC8 := Lib.hid hc8
  have HC9 := Lib.hid hc9
  have n1 : w1.heap.size ≠ w.heap.size := by omega
  have n2 : w1.heap.size ≠ w.heap.size + 1 := by omega
  have n3 : w3.heap.size ≠ w.heap.size := by omega
  have n4 : w3.heap.size ≠ w.heap.size + 1 := by omega
  generalize w1.heap.size = p7 at *
  generalize w3.heap.size = p9 at *
  clear hbx hc8 hc9 h7 h9 b9 b7 hB1 hB3 s1 s3 h7' hbx1
  go_region
  go_wp2_with fail
  refine bodyPost_ret (results_nnt rfl _ _ w.heap.size (w.heap.size + 1) _ _ _ _ rfl HBX.out.res.1 rfl HBX.out.res.2) rfl ?_
  exact ⟨⟨_, _, rfl, ⟨a8, c8, rfl, hr8, (HBX.out.cells HC8.out).via (Below.refl _ _).drew⟩, ⟨a9, c9, rfl, hr9, (HBX.out.cells HC9.out).via (Below.refl _ _).drew⟩⟩, HBX.out.fin.drew⟩
set_option maxRecDepth 100000 in
set_option maxHeartbeats 4000000 in
theorem both_no1 (s t : ByteArray) (hs : (s.size : Int) ≤ 9223372036854775807) (hv : validT s.data.toList = false) (w : World) :
    Calls Tryz.prog 71 #[.string s, .string t] w fun e w' => e = .returned (.tuple #[.agg #[.bool false, .slice none 0 0], .agg #[.bool false, .slice none 0 0], .bool false]) ∧ Below w.heap.size w w' := by
  have HX := Lib.hid (read_no s hs hv)
  clear hv
  go_enter Tryz.func71, Tryz.ntmps71
  go_wp2_with fail
  have hbx := boxR_made w
  generalize World.alloc (World.alloc _ _) _ = W at hbx ⊢
  refine (HX.out W).mono ?_
  rintro e w1 ⟨rfl, hB1⟩
  have hbx := hbx.via hB1
  have hbx := hbx.via (alloc_below w1 (.cells #[.bool false, .slice none 0 0] 84))
  obtain ⟨q1, q2, f1, f2⟩ := heap_cells hbx.r
  obtain ⟨q3, q4, f3, f4⟩ := heap_cells hbx.s
  have HBX := Lib.hid hbx
  clear hbx hB1
  go_wp2_with fail
  refine bodyPost_ret (results_nnt rfl _ _ w.heap.size (w.heap.size + 1) _ _ _ _ rfl HBX.out.res.1 rfl HBX.out.res.2) rfl ?_
  exact ⟨rfl, HBX.out.fin⟩
set_option maxRecDepth 100000 in
set_option maxHeartbeats 4000000 in
theorem both_no2 (x : Int) (t : ByteArray) (hx : Fits x) (ht : (t.size : Int) ≤ 9223372036854775807) (hv : validT t.data.toList = false) (w : World) :
    Calls Tryz.prog 71 #[.string (intB x), .string t] w fun e w' => e = .returned (.tuple #[.agg #[.bool false, .slice none 0 0], .agg #[.bool false, .slice none 0 0], .bool false]) ∧ Below w.heap.size w w' := by
  have HX := Lib.hid (read_ok x hx)
  have HY := Lib.hid (read_no t ht hv)
  generalize intB x = s at *
  clear hx hv
  go_enter Tryz.func71, Tryz.ntmps71
  go_wp2_with fail
  have hbx := boxR_made w
  generalize World.alloc (World.alloc _ _) _ = W at hbx ⊢
  refine (HX.out W).mono ?_
  rintro e w1 ⟨⟨v1, rfl, hn1⟩, hB1⟩
  obtain ⟨a8, c8, rfl, hr8, hc8⟩ := hn1
  have hbx := hbx.via hB1
  go_wp2_with fail
  have b7 := alloc_below w1 (.cells #[.bool (decide (x < 0)), .slice a8 (digsL 10000 x.natAbs).length c8] 84)
  generalize w1.alloc (.cells #[.bool (decide (x < 0)), .slice a8 (digsL 10000 x.natAbs).length c8] 84) = w2 at *
  have hbx := hbx.via b7
  refine (HY.out w2).mono ?_
  rintro e w3 ⟨rfl, hB3⟩
  have hbx := hbx.via hB3
  have hbx := hbx.via (alloc_below w3 (.cells #[.bool false, .slice none 0 0] 84))
  obtain ⟨q1, q2, f1, f2⟩ := heap_cells hbx.r
  obtain ⟨q3, q4, f3, f4⟩ := heap_cells hbx.s
  have HBX := Lib.hid hbx
  clear hbx hB1 hB3 b7 hc8 hr8
  go_wp2_with fail
  refine bodyPost_ret (results_nnt rfl _ _ w.heap.size (w.heap.size + 1) _ _ _ _ rfl HBX.out.res.1 rfl HBX.out.res.2) rfl ?_
  exact ⟨rfl, HBX.out.fin⟩
end Go.Proofs.YtippeffbdjjcfaaGreatDoor
/- IntComb: The contract of combined, and of the functions that call it. -/
namespace Go.Proofs.YtippeffbdjjcfaaGreatDoor
open Go.RowKit Putlog

theorem intB_small {z : Int} (h : z.natAbs < 10000 ^ 250) : (intB z).size ≤ 4 * 250 + 1 := intT_size (by rw [show (10000 : Nat) = 10 ^ 4 from rfl, ← Nat.pow_mul] at h; exact h) (by decide)
theorem validB (z : Int) (h : z.natAbs < 10000 ^ 250) (W : World) : Calls Tryz.prog 111 #[.string (intB z)] W fun e w' => e = .returned (.bool (decide (Fits z))) ∧ w' = W := by
  have h1 := intB_small h
  have h2 := valid_any (intB z) (by omega) W
  have h3 : validT (intB z).data.toList = decide (Fits z) := by
    rw [intB_list]
    by_cases hf : Fits z
    · rw [(validT_int z).2 hf]; simp [hf]
    · have : validT (intT z) = false := by rw [Bool.eq_false_iff]; exact fun k => hf ((validT_int z).1 k)
      rw [this]; simp [hf]
  rwa [h3] at h2
/-- The boxes of two numbers, and what is read of them. -/
theorem boxes_made {w : World} {x1 x2 y1 y2 : Value} : Below w.heap.size w ((w.alloc (.cells #[x1, x2] 84)).alloc (.cells #[y1, y2] 84)) ∧
    ((w.alloc (.cells #[x1, x2] 84)).alloc (.cells #[y1, y2] 84)).heap[w.heap.size]? = some (.cells #[x1, x2] 84 (0, 0)) ∧
    ((w.alloc (.cells #[x1, x2] 84)).alloc (.cells #[y1, y2] 84)).heap[w.heap.size + 1]? = some (.cells #[y1, y2] 84 (0, 0)) := by
  have h1 := heap_alloc_new w (.cells #[x1, x2] 84)
  have b1 := alloc_below w (.cells #[x1, x2] 84)
  have s1 := alloc_size w (.cells #[x1, x2] 84)
  generalize w.alloc (.cells #[x1, x2] 84) = w1 at *
  have h2 := heap_alloc_new w1 (.cells #[y1, y2] 84)
  rw [s1] at h2
  exact ⟨belowVia (alloc_below _ _) b1, heap_below (alloc_below _ _) h1, h2⟩
set_option maxRecDepth 100000 in
set_option maxHeartbeats 4000000 in
theorem comb_ok {g : Nat} (eg : ∀ args w, (callFunc g args).run Tryz.prog w = .ok (.enter g args) w) (x y z : Int) (hx : Fits x) (hy : Fits y) (hz : z.natAbs < 10000 ^ 250)
    (hop : ∀ u v W, NumAt W u x → NumAt W v y → Calls Tryz.prog g #[u, v] W fun e w' => (∃ r, e = .returned r ∧ NumAt w' r z) ∧ Below W.heap.size W w') (w : World) :
    Calls Tryz.prog 84 #[.string (intB x), .string (intB y), .func (.func g) #[] #[]] w (GivesInt (okS z) (okE z) w) := by
  have HB := Lib.hid (both_ok x y hx hy)
  have HT := Lib.hid (fun v W hv => ntext z hz v W hv)
  have HV := Lib.hid (validB z hz)
  have HO := Lib.hid hop
  generalize intB x = s at *
  generalize intB y = t at *
  have hOK : okS z = if Fits z then intB z else ⟨#[]⟩ := rfl
  have hOE : okE z = if Fits z then 0 else 30 := rfl
  generalize intB z = r at *
  clear hx hy hz hop
  by_cases hf : Fits z
  · have hd : decide (Fits z) = true := by simp [hf]
    rw [hd] at HV
    rw [if_pos hf] at hOK hOE
    rw [hOK, hOE]
    clear hOK hOE hd hf
    go_enter Tryz.func84, Tryz.ntmps84
    go_wp2_with fail
    refine (HB.out w).mono ?_
    rintro e w1 ⟨⟨u, v, rfl, hu, hv⟩, hB1⟩
    have HU := Lib.hid hu
    have HVV := Lib.hid hv
    obtain ⟨a, ca, rfl, _, _⟩ := hu
    obtain ⟨b, cb, rfl, _, _⟩ := hv
    generalize (digsL 10000 x.natAbs).length = n at *
    generalize (digsL 10000 y.natAbs).length = m at *
    generalize decide (x < 0) = sx at *
    generalize decide (y < 0) = sy at *
    obtain ⟨hb, hc1, hc2⟩ := boxes_made (w := w1) (x1 := .bool sx) (x2 := .slice a n ca) (y1 := .bool sy) (y2 := .slice b m cb)
    obtain ⟨k1, k2, _, _⟩ := heap_cells hc1
    obtain ⟨k3, k4, _, _⟩ := heap_cells hc2
    have HU2 := Lib.hid (HU.out.via hb)
    have HV2 := Lib.hid (HVV.out.via hb)
    have HB2 := Lib.hid (belowVia hb hB1)
    clear hb hc1 hc2 HU HVV hB1
    go_wp2_with fail
    refine (HO.out _ _ _ HU2.out HV2.out).mono ?_
    rintro e w2 ⟨⟨rr, rfl, hn⟩, hB3⟩
    have HB3 := Lib.hid (belowVia hB3 HB2.out)
    clear hB3
    go_wp2_with fail
    refine (HT.out _ _ hn).mono ?_
    rintro e w3 ⟨rfl, hB4⟩
    go_wp2_with fail
    refine (HV.out w3).mono ?_
    rintro e w4 ⟨rfl, rfl⟩
    go_wp2_with fail
    go_ret2
    exact ⟨rfl, belowVia hB4 HB3.out⟩
  · have hd : decide (Fits z) = false := by simp [hf]
    rw [hd] at HV
    rw [if_neg hf] at hOK hOE
    rw [hOK, hOE]
    clear hOK hOE hd hf
    go_enter Tryz.func84, Tryz.ntmps84
    go_wp2_with fail
    refine (HB.out w).mono ?_
    rintro e w1 ⟨⟨u, v, rfl, hu, hv⟩, hB1⟩
    have HU := Lib.hid hu
    have HVV := Lib.hid hv
    obtain ⟨a, ca, rfl, _, _⟩ := hu
    obtain ⟨b, cb, rfl, _, _⟩ := hv
    generalize (digsL 10000 x.natAbs).length = n at *
    generalize (digsL 10000 y.natAbs).length = m at *
    generalize decide (x < 0) = sx at *
    generalize decide (y < 0) = sy at *
    obtain ⟨hb, hc1, hc2⟩ := boxes_made (w := w1) (x1 := .bool sx) (x2 := .slice a n ca) (y1 := .bool sy) (y2 := .slice b m cb)
    obtain ⟨k1, k2, _, _⟩ := heap_cells hc1
    obtain ⟨k3, k4, _, _⟩ := heap_cells hc2
    have HU2 := Lib.hid (HU.out.via hb)
    have HV2 := Lib.hid (HVV.out.via hb)
    have HB2 := Lib.hid (belowVia hb hB1)
    clear hb hc1 hc2 HU HVV hB1
    go_wp2_with fail
    refine (HO.out _ _ _ HU2.out HV2.out).mono ?_
    rintro e w2 ⟨⟨rr, rfl, hn⟩, hB3⟩
    have HB3 := Lib.hid (belowVia hB3 HB2.out)
    clear hB3
    go_wp2_with fail
    refine (HT.out _ _ hn).mono ?_
    rintro e w3 ⟨rfl, hB4⟩
    go_wp2_with fail
    refine (HV.out w3).mono ?_
    rintro e w4 ⟨rfl, rfl⟩
    go_wp2_with fail
    go_ret2
    exact ⟨rfl, belowVia hB4 HB3.out⟩
set_option maxRecDepth 100000 in
set_option maxHeartbeats 4000000 in
theorem comb_no (s t : ByteArray) (f : Value) (w : World) (h : Calls Tryz.prog 71 #[.string s, .string t] w fun e w' => e = .returned (.tuple #[.agg #[.bool false, .slice none 0 0], .agg #[.bool false, .slice none 0 0], .bool false]) ∧ Below w.heap.size w w') :
    Calls Tryz.prog 84 #[.string s, .string t, f] w (GivesInt ⟨#[]⟩ 30 w) := by
  have HB := Lib.hid h
  clear h
  go_enter Tryz.func84, Tryz.ntmps84
  go_wp2_with fail
  refine HB.out.mono ?_
  rintro e w1 ⟨rfl, hB1⟩
  go_wp2_with fail
  go_ret2
  exact ⟨rfl, belowVia ((alloc_below _ _).alloc (by simp) _) hB1⟩
/-- What two texts are: two integers, or one of them is none. -/
theorem both_cases (s t : ByteArray) (hs : (s.size : Int) ≤ 9223372036854775807) (ht : (t.size : Int) ≤ 9223372036854775807) :
    (∃ x y, s = intB x ∧ t = intB y ∧ Fits x ∧ Fits y) ∨ (validT s.data.toList && validT t.data.toList) = false ∧ ∀ w, Calls Tryz.prog 71 #[.string s, .string t] w fun e w' => e = .returned (.tuple #[.agg #[.bool false, .slice none 0 0], .agg #[.bool false, .slice none 0 0], .bool false]) ∧ Below w.heap.size w w' := by
  have hback : ∀ s : ByteArray, validT s.data.toList = true → ∃ x, s = intB x ∧ Fits x := fun s h => by
    obtain ⟨x, h1, h2⟩ := validT_some h
    exact ⟨x, by show s = ⟨(intT x).toArray⟩; rw [← h1], h2⟩
  by_cases h1 : validT s.data.toList = true
  · obtain ⟨x, rfl, hx⟩ := hback s h1
    by_cases h2 : validT t.data.toList = true
    · obtain ⟨y, rfl, hy⟩ := hback t h2
      exact .inl ⟨x, y, rfl, rfl, hx, hy⟩
    · have h2 := Bool.eq_false_iff.2 h2
      exact .inr ⟨by rw [h2, Bool.and_false], fun w => both_no2 x t hx ht h2 w⟩
  · have h1 := Bool.eq_false_iff.2 h1
    exact .inr ⟨by rw [h1, Bool.false_and], fun w => both_no1 s t hs h1 w⟩
set_option maxRecDepth 100000 in
set_option maxHeartbeats 4000000 in
theorem add_any (s t x : ByteArray) (k : Int) (w : World) (h : Calls Tryz.prog 84 #[.string s, .string t, .func (.func 85) #[] #[]] w (GivesInt x k w)) :
    Calls Tryz.prog 54 #[.string s, .string t] w (GivesInt x k w) := by
  have H := Lib.hid h
  clear h
  go_enter Tryz.func54, Tryz.ntmps54
  go_wp2_with fail
  refine H.out.mono ?_
  rintro e w1 ⟨rfl, hB1⟩
  go_wp2_with fail
  go_ret2
  exact ⟨rfl, hB1⟩
set_option maxRecDepth 100000 in
set_option maxHeartbeats 4000000 in
theorem sub_any (s t x : ByteArray) (k : Int) (w : World) (h : Calls Tryz.prog 84 #[.string s, .string t, .func (.func 97) #[] #[]] w (GivesInt x k w)) :
    Calls Tryz.prog 66 #[.string s, .string t] w (GivesInt x k w) := by
  have H := Lib.hid h
  clear h
  go_enter Tryz.func66, Tryz.ntmps66
  go_wp2_with fail
  refine H.out.mono ?_
  rintro e w1 ⟨rfl, hB1⟩
  go_wp2_with fail
  go_ret2
  exact ⟨rfl, hB1⟩
set_option maxRecDepth 100000 in
set_option maxHeartbeats 4000000 in
theorem mul_any (s t x : ByteArray) (k : Int) (w : World) (h : Calls Tryz.prog 84 #[.string s, .string t, .func (.func 96) #[] #[]] w (GivesInt x k w)) :
    Calls Tryz.prog 65 #[.string s, .string t] w (GivesInt x k w) := by
  have H := Lib.hid h
  clear h
  go_enter Tryz.func65, Tryz.ntmps65
  go_wp2_with fail
  refine H.out.mono ?_
  rintro e w1 ⟨rfl, hB1⟩
  go_wp2_with fail
  go_ret2
  exact ⟨rfl, hB1⟩
set_option maxRecDepth 100000 in
set_option maxHeartbeats 4000000 in
theorem gcd_call (s t x : ByteArray) (k : Int) (w : World) (h : Calls Tryz.prog 84 #[.string s, .string t, .func (.func 89) #[] #[]] w (GivesInt x k w)) :
    Calls Tryz.prog 58 #[.string s, .string t] w (GivesInt x k w) := by
  have H := Lib.hid h
  clear h
  go_enter Tryz.func58, Tryz.ntmps58
  go_wp2_with fail
  refine H.out.mono ?_
  rintro e w1 ⟨rfl, hB1⟩
  go_wp2_with fail
  go_ret2
  exact ⟨rfl, hB1⟩
set_option maxRecDepth 100000 in
set_option maxHeartbeats 4000000 in
theorem gcd1_any (x y : Int) (hx : x.natAbs < 10000 ^ 250) (hy : y.natAbs < 10000 ^ 250) (u v : Value) (w : World) (hu : NumAt w u x) (hv : NumAt w v y) :
    Calls Tryz.prog 89 #[u, v] w fun e w' => (∃ r, e = .returned r ∧ NumAt w' r (Int.gcd x y : Nat)) ∧ Below w.heap.size w w' := by
  obtain ⟨a, ca, rfl, hra, hca⟩ := hu
  obtain ⟨b, cb, rfl, hrb, hcb⟩ := hv
  have hgb : Nat.gcd x.natAbs y.natAbs < 10000 ^ 250 := by
    rcases Nat.eq_zero_or_pos x.natAbs with h | h
    · rw [h, Nat.gcd_zero_left]; exact hy
    · exact Nat.lt_of_le_of_lt (Nat.le_of_dvd h (Nat.gcd_dvd_left _ _)) hx
  have HP := Lib.hid (fun W hu hv => gcd_any x.natAbs y.natAbs hx hy _ _ W (MagAt.via hu (mag_of_num hra hca)) (MagAt.via hv (mag_of_num hrb hcb)))
  have HS := Lib.hid (fun sv W hm => signed_any false (Nat.gcd x.natAbs y.natAbs) sv W hgb hm)
  have hz : sgn false (Nat.gcd x.natAbs y.natAbs) = (Int.gcd x y : Nat) := rfl
  obtain ⟨z, hzz⟩ : ∃ z : Int, z = (Int.gcd x y : Nat) := ⟨_, rfl⟩
  rw [hz, ← hzz] at HS
  rw [← hzz]
  generalize (digsL 10000 x.natAbs).length = n at *
  generalize (digsL 10000 y.natAbs).length = m at *
  generalize decide (x < 0) = sx at *
  generalize decide (y < 0) = sy at *
  clear hx hy hgb hz hzz
  go_enter Tryz.func89, Tryz.ntmps89
  go_wp2_with fail
  have hbx := box3_made w (.bool sx) (.slice a n ca) (.bool sy) (.slice b m cb)
  generalize World.alloc (World.alloc _ _) _ = W at hbx ⊢
  refine (HP.out W hbx.bel hbx.bel).mono ?_
  rintro e w1 ⟨⟨r1, rfl, hm1⟩, hB1⟩
  have hbx := hbx.via hB1
  go_wp2_with fail
  refine (HS.out _ _ hm1).mono ?_
  rintro e w2 ⟨⟨r2, rfl, hn2⟩, hB2⟩
  obtain ⟨a9, c9, rfl, hr9, hc9⟩ := hn2
  have hbx2 := hbx.via hB2
  obtain ⟨hq1, hq2, hf1, hf2⟩ := heap_cells hbx2.r
  clear hbx hB1 hB2
  go_wp2_with fail
  refine bodyPost_ret (results_n rfl _ _ (w.heap.size + 1 + 1) _ _ rfl hbx2.res) rfl ?_
  exact ⟨⟨_, rfl, a9, c9, rfl, hr9, cells_res hc9 hbx2.r⟩, below_res hbx2.bel (by omega) _ _⟩
end Go.Proofs.YtippeffbdjjcfaaGreatDoor
/- IntExp: The contracts of the exported functions. -/
namespace Go.Proofs.YtippeffbdjjcfaaGreatDoor
open Go.RowKit Putlog

theorem add_lt120 {x y : Int} (hx : x.natAbs < 10000 ^ 120) (hy : y.natAbs < 10000 ^ 120) : (x + y).natAbs < 10000 ^ 250 :=
  Nat.lt_of_lt_of_le (show _ < 10000 ^ 121 by rw [Nat.pow_succ]; omega) (Nat.pow_le_pow_right (by decide) (by decide))
theorem sub_lt120 {x y : Int} (hx : x.natAbs < 10000 ^ 120) (hy : y.natAbs < 10000 ^ 120) : (x - y).natAbs < 10000 ^ 250 :=
  Nat.lt_of_lt_of_le (show _ < 10000 ^ 121 by rw [Nat.pow_succ]; omega) (Nat.pow_le_pow_right (by decide) (by decide))
theorem mul_lt120 {x y : Int} (hx : x.natAbs < 10000 ^ 120) (hy : y.natAbs < 10000 ^ 120) : (x * y).natAbs < 10000 ^ 250 := by rw [Int.natAbs_mul]; exact prod_lt hx hy
theorem gcd_fits {x y : Int} (hx : Fits x) (hy : Fits y) : Fits (Int.gcd x y : Nat) := by
  show (Nat.gcd x.natAbs y.natAbs : Int).natAbs < 10 ^ 200
  rw [Int.natAbs_natCast]
  rcases Nat.eq_zero_or_pos x.natAbs with h | h
  · rw [h, Nat.gcd_zero_left]; exact hy
  · exact Nat.lt_of_le_of_lt (Nat.le_of_dvd h (Nat.gcd_dvd_left _ _)) hx
theorem add_ok (x y : Int) (hx : Fits x) (hy : Fits y) (w : World) : Calls Tryz.prog 54 #[.string (intB x), .string (intB y)] w (GivesInt (okS (x + y)) (okE (x + y)) w) :=
  add_any _ _ _ _ w (comb_ok (enters_of Tryz.func85 (by kernel_rfl) rfl) x y (x + y) hx hy (add_lt120 (fits120 hx) (fits120 hy)) (fun u v W hu hv => nplus x y (fits120 hx) (fits120 hy) u v W hu hv) w)
theorem sub_ok (x y : Int) (hx : Fits x) (hy : Fits y) (w : World) : Calls Tryz.prog 66 #[.string (intB x), .string (intB y)] w (GivesInt (okS (x - y)) (okE (x - y)) w) :=
  sub_any _ _ _ _ w (comb_ok (enters_of Tryz.func97 (by kernel_rfl) rfl) x y (x - y) hx hy (sub_lt120 (fits120 hx) (fits120 hy)) (fun u v W hu hv => nminus x y (fits120 hx) (fits120 hy) u v W hu hv) w)
theorem mul_ok (x y : Int) (hx : Fits x) (hy : Fits y) (w : World) : Calls Tryz.prog 65 #[.string (intB x), .string (intB y)] w (GivesInt (okS (x * y)) (okE (x * y)) w) :=
  mul_any _ _ _ _ w (comb_ok (enters_of Tryz.func96 (by kernel_rfl) rfl) x y (x * y) hx hy (mul_lt120 (fits120 hx) (fits120 hy)) (fun u v W hu hv => ntimes x y (fits120 hx) (fits120 hy) u v W hu hv) w)
theorem gcd_ok (x y : Int) (hx : Fits x) (hy : Fits y) (w : World) : Calls Tryz.prog 58 #[.string (intB x), .string (intB y)] w (GivesInt (intB (Int.gcd x y : Nat)) 0 w) := by
  have h := comb_ok (enters_of Tryz.func89 (by kernel_rfl) rfl) x y (Int.gcd x y : Nat) hx hy (fits250 (gcd_fits hx hy)) (fun u v W hu hv => gcd1_any x y (fits250 hx) (fits250 hy) u v W hu hv) w
  rw [okS_fits (gcd_fits hx hy), okE_fits (gcd_fits hx hy)] at h
  exact gcd_call _ _ _ _ w h
set_option maxRecDepth 100000 in
set_option maxHeartbeats 4000000 in
theorem cmp_ok (x y : Int) (hx : Fits x) (hy : Fits y) (w : World) : Calls Tryz.prog 46 #[.string (intB x), .string (intB y)] w fun e w' => e = .returned (.int .i64 (cmpI x y)) ∧ Below w.heap.size w w' := by
  have HB := Lib.hid (both_ok x y hx hy)
  have HC := Lib.hid (fun u v W hu hv => ncmp x y (fits250 hx) (fits250 hy) u v W hu hv)
  generalize intB x = s at *
  generalize intB y = t at *
  generalize cmpI x y = r at *
  clear hx hy
  go_enter Tryz.func46, Tryz.ntmps46
  go_wp2_with fail
  refine (HB.out w).mono ?_
  rintro e w1 ⟨⟨u, v, rfl, hu, hv⟩, hB1⟩
  have HU := Lib.hid hu
  have HVV := Lib.hid hv
  obtain ⟨a, ca, rfl, _, _⟩ := hu
  obtain ⟨b, cb, rfl, _, _⟩ := hv
  generalize (digsL 10000 x.natAbs).length = n at *
  generalize (digsL 10000 y.natAbs).length = m at *
  generalize decide (x < 0) = sx at *
  generalize decide (y < 0) = sy at *
  obtain ⟨hb, hc1, hc2⟩ := boxes_made (w := w1) (x1 := .bool sx) (x2 := .slice a n ca) (y1 := .bool sy) (y2 := .slice b m cb)
  obtain ⟨k1, k2, _, _⟩ := heap_cells hc1
  obtain ⟨k3, k4, _, _⟩ := heap_cells hc2
  have HU2 := Lib.hid (HU.out.via hb)
  have HV2 := Lib.hid (HVV.out.via hb)
  have HB2 := Lib.hid (belowVia hb hB1)
  clear hb hc1 hc2 HU HVV hB1
  go_wp2_with fail
  refine (HC.out _ _ _ HU2.out HV2.out).mono ?_
  rintro e w2 ⟨rfl, hB3⟩
  go_wp2_with fail
  go_ret
  exact ⟨rfl, belowVia hB3 HB2.out⟩
set_option maxRecDepth 100000 in
set_option maxHeartbeats 4000000 in
theorem cmp_no (s t : ByteArray) (w : World) (h : Calls Tryz.prog 71 #[.string s, .string t] w fun e w' => e = .returned (.tuple #[.agg #[.bool false, .slice none 0 0], .agg #[.bool false, .slice none 0 0], .bool false]) ∧ Below w.heap.size w w') :
    Calls Tryz.prog 46 #[.string s, .string t] w fun e w' => e = .returned (.int .i64 0) ∧ Below w.heap.size w w' := by
  have HB := Lib.hid h
  clear h
  go_enter Tryz.func46, Tryz.ntmps46
  go_wp2_with fail
  refine HB.out.mono ?_
  rintro e w1 ⟨rfl, hB1⟩
  go_wp2_with fail
  go_ret
  exact ⟨rfl, belowVia ((alloc_below _ _).alloc (by simp) _) hB1⟩
set_option maxRecDepth 100000 in
set_option maxHeartbeats 4000000 in
theorem div_no (s t : ByteArray) (w : World) (h : Calls Tryz.prog 71 #[.string s, .string t] w fun e w' => e = .returned (.tuple #[.agg #[.bool false, .slice none 0 0], .agg #[.bool false, .slice none 0 0], .bool false]) ∧ Below w.heap.size w w') :
    Calls Tryz.prog 45 #[.string s, .string t] w fun e w' => e = .returned (.tuple #[.string ⟨#[]⟩, .string ⟨#[]⟩, .int .i64 30]) ∧ Below w.heap.size w w' := by
  have HB := Lib.hid h
  clear h
  go_enter Tryz.func45, Tryz.ntmps45
  go_wp2_with fail
  refine HB.out.mono ?_
  rintro e w1 ⟨rfl, hB1⟩
  obtain ⟨hb, hc1, hc2⟩ := boxes_made (w := w1) (x1 := .bool false) (x2 := .slice none 0 0) (y1 := .bool false) (y2 := .slice none 0 0)
  obtain ⟨k1, k2, _, _⟩ := heap_cells hc1
  obtain ⟨k3, k4, _, _⟩ := heap_cells hc2
  clear hb hc1 hc2
  go_wp2_with fail
  go_ret3
  exact ⟨rfl, belowVia ((alloc_below _ _).alloc (by simp) _) hB1⟩
set_option maxRecDepth 100000 in
set_option maxHeartbeats 4000000 in
theorem div_zero (x : Int) (hx : Fits x) (w : World) :
    Calls Tryz.prog 45 #[.string (intB x), .string (intB 0)] w fun e w' => e = .returned (.tuple #[.string ⟨#[]⟩, .string ⟨#[]⟩, .int .i64 30]) ∧ Below w.heap.size w w' := by
  have h0 : Fits 0 := by show (0 : Int).natAbs < 10 ^ 200; exact Nat.pow_pos (by decide)
  have HB := Lib.hid (both_ok x 0 hx h0)
  have HZ := Lib.hid (fun v W hv => nzero 0 (fits250 h0) v W hv)
  rw [show decide ((0 : Int) = 0) = true from rfl] at HZ
  generalize intB x = s at *
  generalize intB 0 = t at *
  obtain ⟨y, hy⟩ : ∃ y : Int, y = 0 := ⟨_, rfl⟩
  rw [← hy] at HB HZ
  clear hx h0 hy
  go_enter Tryz.func45, Tryz.ntmps45
  go_wp2_with fail
  refine (HB.out w).mono ?_
  rintro e w1 ⟨⟨u, v, rfl, hu, hv⟩, hB1⟩
  have HVV := Lib.hid hv
  obtain ⟨a, ca, rfl, _, _⟩ := hu
  obtain ⟨b, cb, rfl, _, _⟩ := hv
  generalize (digsL 10000 x.natAbs).length = n at *
  generalize (digsL 10000 y.natAbs).length = m at *
  generalize decide (x < 0) = sx at *
  generalize decide (y < 0) = sy at *
  obtain ⟨hb, hc1, hc2⟩ := boxes_made (w := w1) (x1 := .bool sx) (x2 := .slice a n ca) (y1 := .bool sy) (y2 := .slice b m cb)
  obtain ⟨k1, k2, _, _⟩ := heap_cells hc1
  obtain ⟨k3, k4, _, _⟩ := heap_cells hc2
  have HV2 := Lib.hid (HVV.out.via hb)
  have HB2 := Lib.hid (belowVia hb hB1)
  clear hb hc1 hc2 HVV hB1
  go_wp2_with fail
  refine (HZ.out _ _ HV2.out).mono ?_
  rintro e w2 ⟨rfl, hB3⟩
  go_wp2_with fail
  go_ret3
  exact ⟨rfl, belowVia hB3 HB2.out⟩
set_option maxRecDepth 100000 in
set_option maxHeartbeats 4000000 in
theorem div_ok (x y : Int) (hx : Fits x) (hy : Fits y) (h0 : y ≠ 0) (w : World) :
    Calls Tryz.prog 45 #[.string (intB x), .string (intB y)] w fun e w' => e = .returned (.tuple #[.string (intB (x / y)), .string (intB (x % y)), .int .i64 0]) ∧ Below w.heap.size w w' := by
  have HB := Lib.hid (both_ok x y hx hy)
  have HZ := Lib.hid (fun v W hv => nzero y (fits250 hy) v W hv)
  rw [show decide (y = 0) = false by simp [h0]] at HZ
  have HD := Lib.hid (fun u v W hu hv => ndiv x y (fits120 hx) (fits120 hy) h0 u v W hu hv)
  obtain ⟨e1, e2, e3⟩ := ediv_spec x y h0
  have hrb : (x % y).natAbs < 10000 ^ 250 := by have := fits250 hy; omega
  have hqb : (x / y).natAbs < 10000 ^ 250 := Nat.lt_of_le_of_lt (Int.natAbs_ediv_le_natAbs x y) (fits250 hx)
  have HQ := Lib.hid (fun v W hv => ntext (x / y) hqb v W hv)
  have HR := Lib.hid (fun v W hv => ntext (x % y) hrb v W hv)
  generalize intB (x / y) = qs at *
  generalize intB (x % y) = rs at *
  generalize intB x = s at *
  generalize intB y = t at *
  generalize x / y = q at *
  generalize x % y = r at *
  clear hx hy h0 e1 e2 e3 hrb hqb
  go_enter Tryz.func45, Tryz.ntmps45
  go_wp2_with fail
  refine (HB.out w).mono ?_
  rintro e w1 ⟨⟨u, v, rfl, hu, hv⟩, hB1⟩
  have HU := Lib.hid hu
  have HVV := Lib.hid hv
  obtain ⟨a, ca, rfl, _, _⟩ := hu
  obtain ⟨b, cb, rfl, _, _⟩ := hv
  generalize (digsL 10000 x.natAbs).length = n at *
  generalize (digsL 10000 y.natAbs).length = m at *
  generalize decide (x < 0) = sx at *
  generalize decide (y < 0) = sy at *
  obtain ⟨hb, hc1, hc2⟩ := boxes_made (w := w1) (x1 := .bool sx) (x2 := .slice a n ca) (y1 := .bool sy) (y2 := .slice b m cb)
  have HC1 := Lib.hid hc1
  have HC2 := Lib.hid hc2
  obtain ⟨k1, k2, _, _⟩ := heap_cells hc1
  obtain ⟨k3, k4, _, _⟩ := heap_cells hc2
  have HU2 := Lib.hid (HU.out.via hb)
  have HV2 := Lib.hid (HVV.out.via hb)
  have HB2 := Lib.hid (belowVia hb hB1)
  clear hb hc1 hc2 HU HVV hB1
  go_wp2_with fail
  refine (HZ.out _ _ HV2.out).mono ?_
  rintro e w2 ⟨rfl, hB3⟩
  obtain ⟨k1', k2', _, _⟩ := heap_cells (heap_below hB3 HC1.out)
  obtain ⟨k3', k4', _, _⟩ := heap_cells (heap_below hB3 HC2.out)
  have HU3 := Lib.hid (HU2.out.via hB3)
  have HV3 := Lib.hid (HV2.out.via hB3)
  have HB3 := Lib.hid (belowVia hB3 HB2.out)
  clear hB3 k1 k2 k3 k4 HC1 HC2 HU2 HV2
  go_wp2_with fail
  refine (HD.out _ _ _ HU3.out HV3.out).mono ?_
  rintro e w3 ⟨⟨qv, rv, rfl, hq, hr⟩, hB4⟩
  have HQ4 := Lib.hid hq
  have HR4 := Lib.hid hr
  obtain ⟨a, ca, rfl, _, _⟩ := hq
  obtain ⟨b, cb, rfl, _, _⟩ := hr
  generalize (digsL 10000 q.natAbs).length = n2 at *
  generalize (digsL 10000 r.natAbs).length = m2 at *
  generalize decide (q < 0) = sq at *
  generalize decide (r < 0) = sr at *
  obtain ⟨hb, hc1, hc2⟩ := boxes_made (w := w3) (x1 := .bool sq) (x2 := .slice a n2 ca) (y1 := .bool sr) (y2 := .slice b m2 cb)
  obtain ⟨j1, j2, _, _⟩ := heap_cells hc1
  obtain ⟨j3, j4, _, _⟩ := heap_cells hc2
  have HQ5 := Lib.hid (HQ4.out.via hb)
  have HR5 := Lib.hid (HR4.out.via hb)
  have HB5 := Lib.hid (belowVia hb (belowVia hB4 HB3.out))
  clear hb hc1 hc2 HQ4 HR4 hB4 k1' k2' k3' k4' HU3 HV3
  go_wp2_with fail
  generalize World.alloc (World.alloc _ _) _ = w5 at *
  go_region_held3 (fun w' => w'.cell? ⟨w3.heap.size, 0, none⟩ = some (.bool sq) ∧ w'.cell? ⟨w3.heap.size, 1, none⟩ = some (.slice a n2 ca) ∧ w'.cell? ⟨w3.heap.size + 1, 0, none⟩ = some (.bool sr) ∧ w'.cell? ⟨w3.heap.size + 1, 1, none⟩ = some (.slice b m2 cb)) (first | exact ⟨j1, j2, j3, j4⟩ | exact ⟨keptBelow hC1 j1, keptBelow hC1 j2, keptBelow hC1 j3, keptBelow hC1 j4⟩ | exact ⟨keptBelow hC2 (keptBelow hC1 j1), keptBelow hC2 (keptBelow hC1 j2), keptBelow hC2 (keptBelow hC1 j3), keptBelow hC2 (keptBelow hC1 j4)⟩) (first
    | (go_at_call 74; (with_reducible refine (HQ.out _ _ ?_).mono ?_); exact NumAt.via (Below.refl _ _).drew HQ5.out; rintro e w6 ⟨rfl, hC1⟩)
    | (go_at_call 74; (with_reducible refine (HR.out _ _ ?_).mono ?_); exact NumAt.via hC1 (NumAt.via (Below.refl _ _).drew HR5.out); rintro e w7 ⟨rfl, hC2⟩))
  go_wp2_with fail
  go_ret3
  exact ⟨rfl, belowVia hC2 (belowVia (undrew hC1) HB5.out)⟩
end Go.Proofs.YtippeffbdjjcfaaGreatDoor
/- RatStr: Integer's functions, whatever the two texts. -/
namespace Go.Proofs.YtippeffbdjjcfaaGreatDoor
open Go.RowKit Putlog

def Sized (x : ByteArray) : Prop := (x.size : Int) ≤ 9223372036854775807
theorem sized_int {z : Int} (h : z.natAbs < 10000 ^ 250) : Sized (intB z) := by have := intB_small h; unfold Sized; omega
theorem sized_fits {z : Int} (h : Fits z) : Sized (intB z) := sized_int (fits250 h)
theorem sized_nil : Sized ⟨#[]⟩ := by unfold Sized; decide
/-- An operation on the integers that two texts are. -/
def op2 (f : Int → Int → ByteArray × Int) (x y : ByteArray) : ByteArray × Int :=
  match readI x, readI y with
  | some a, some b => f a b
  | _, _ => (⟨#[]⟩, 30)
theorem op2_ints {f : Int → Int → ByteArray × Int} {a b : Int} (ha : Fits a) (hb : Fits b) : op2 f (intB a) (intB b) = f a b := by unfold op2; rw [readI_int ha, readI_int hb]
def addF (a b : Int) : ByteArray × Int := (okS (a + b), okE (a + b))
def subF (a b : Int) : ByteArray × Int := (okS (a - b), okE (a - b))
def mulF (a b : Int) : ByteArray × Int := (okS (a * b), okE (a * b))
def gcdF (a b : Int) : ByteArray × Int := (intB (Int.gcd a b : Nat), 0)
def quoF (a b : Int) : ByteArray × Int := if b = 0 then (⟨#[]⟩, 30) else (intB (a / b), 0)
def cmpS (x y : ByteArray) : Int :=
  match readI x, readI y with
  | some a, some b => cmpI a b
  | _, _ => 0
theorem cmpS_ints {a b : Int} (ha : Fits a) (hb : Fits b) : cmpS (intB a) (intB b) = cmpI a b := by unfold cmpS; rw [readI_int ha, readI_int hb]
def divS (x y : ByteArray) : ByteArray × ByteArray × Int :=
  match readI x, readI y with
  | some a, some b => if b = 0 then (⟨#[]⟩, ⟨#[]⟩, 30) else (intB (a / b), intB (a % b), 0)
  | _, _ => (⟨#[]⟩, ⟨#[]⟩, 30)
theorem divS_ints {a b : Int} (ha : Fits a) (hb : Fits b) (h : b ≠ 0) : divS (intB a) (intB b) = (intB (a / b), intB (a % b), 0) := by unfold divS; rw [readI_int ha, readI_int hb]; exact if_neg h
theorem sized_okS (z : Int) : Sized (okS z) := by
  unfold okS; split
  · rename_i h; exact sized_fits h
  · exact sized_nil
theorem str_cases (s t : ByteArray) (hs : Sized s) (ht : Sized t) :
    (∃ x y, s = intB x ∧ t = intB y ∧ Fits x ∧ Fits y) ∨ ((readI s = none ∨ readI t = none) ∧ ∀ w, Calls Tryz.prog 71 #[.string s, .string t] w fun e w' => e = .returned (.tuple #[.agg #[.bool false, .slice none 0 0], .agg #[.bool false, .slice none 0 0], .bool false]) ∧ Below w.heap.size w w') := by
  rcases both_cases s t hs ht with h | ⟨h1, h2⟩
  · exact .inl h
  · refine .inr ⟨?_, h2⟩
    rcases Bool.and_eq_false_iff.1 h1 with h | h
    · exact .inl (readI_none h)
    · exact .inr (readI_none h)
theorem op2_no {f : Int → Int → ByteArray × Int} {s t : ByteArray} (h : readI s = none ∨ readI t = none) : op2 f s t = (⟨#[]⟩, 30) := by
  unfold op2
  rcases h with h | h <;> rw [h]
  cases readI s <;> rfl
theorem cmpS_no {s t : ByteArray} (h : readI s = none ∨ readI t = none) : cmpS s t = 0 := by
  unfold cmpS
  rcases h with h | h <;> rw [h]
  cases readI s <;> rfl
theorem divS_no {s t : ByteArray} (h : readI s = none ∨ readI t = none) : divS s t = (⟨#[]⟩, ⟨#[]⟩, 30) := by
  unfold divS
  rcases h with h | h <;> rw [h]
  cases readI s <;> rfl
/-- What a function on two texts answers, whatever they are. -/
def Op2 (h : Nat) (F : ByteArray → ByteArray → ByteArray × Int) : Prop :=
  (∀ args w, (callFunc h args).run Tryz.prog w = .ok (.enter h args) w) ∧ (∀ x y, Sized x → Sized y → Sized (F x y).1) ∧
  ∀ (x y : ByteArray) (w : World), Sized x → Sized y → Calls Tryz.prog h #[.string x, .string y] w (GivesInt (F x y).1 (F x y).2 w)
theorem sized_op2 {f : Int → Int → ByteArray × Int} (h : ∀ a b, Fits a → Fits b → Sized (f a b).1) (x y : ByteArray) : Sized (op2 f x y).1 := by
  unfold op2
  split
  · rename_i a b h1 h2; exact h a b (readI_some h1).2 (readI_some h2).2
  · exact sized_nil
theorem op2_add : Op2 54 (op2 addF) := by
  refine ⟨enters_of Tryz.func54 (by kernel_rfl) rfl, fun x y _ _ => sized_op2 (fun a b _ _ => sized_okS _) x y, fun x y w hx hy => ?_⟩
  rcases str_cases x y hx hy with ⟨a, b, rfl, rfl, ha, hb⟩ | ⟨h1, h2⟩
  · rw [op2_ints ha hb]; exact add_ok a b ha hb w
  · rw [op2_no h1]; exact add_any _ _ _ _ w (comb_no _ _ _ w (h2 w))
theorem op2_sub : Op2 66 (op2 subF) := by
  refine ⟨enters_of Tryz.func66 (by kernel_rfl) rfl, fun x y _ _ => sized_op2 (fun a b _ _ => sized_okS _) x y, fun x y w hx hy => ?_⟩
  rcases str_cases x y hx hy with ⟨a, b, rfl, rfl, ha, hb⟩ | ⟨h1, h2⟩
  · rw [op2_ints ha hb]; exact sub_ok a b ha hb w
  · rw [op2_no h1]; exact sub_any _ _ _ _ w (comb_no _ _ _ w (h2 w))
theorem op2_mul : Op2 65 (op2 mulF) := by
  refine ⟨enters_of Tryz.func65 (by kernel_rfl) rfl, fun x y _ _ => sized_op2 (fun a b _ _ => sized_okS _) x y, fun x y w hx hy => ?_⟩
  rcases str_cases x y hx hy with ⟨a, b, rfl, rfl, ha, hb⟩ | ⟨h1, h2⟩
  · rw [op2_ints ha hb]; exact mul_ok a b ha hb w
  · rw [op2_no h1]; exact mul_any _ _ _ _ w (comb_no _ _ _ w (h2 w))
theorem op2_gcd : Op2 58 (op2 gcdF) := by
  refine ⟨enters_of Tryz.func58 (by kernel_rfl) rfl, fun x y _ _ => sized_op2 (fun a b ha hb => sized_fits (gcd_fits ha hb)) x y, fun x y w hx hy => ?_⟩
  rcases str_cases x y hx hy with ⟨a, b, rfl, rfl, ha, hb⟩ | ⟨h1, h2⟩
  · rw [op2_ints ha hb]; exact gcd_ok a b ha hb w
  · rw [op2_no h1]; exact gcd_call _ _ _ _ w (comb_no _ _ _ w (h2 w))
theorem cmp_str (x y : ByteArray) (w : World) (hx : Sized x) (hy : Sized y) : Calls Tryz.prog 46 #[.string x, .string y] w fun e w' => e = .returned (.int .i64 (cmpS x y)) ∧ Below w.heap.size w w' := by
  rcases str_cases x y hx hy with ⟨a, b, rfl, rfl, ha, hb⟩ | ⟨h1, h2⟩
  · rw [cmpS_ints ha hb]; exact cmp_ok a b ha hb w
  · rw [cmpS_no h1]; exact cmp_no _ _ w (h2 w)
theorem div_str (x y : ByteArray) (w : World) (hx : Sized x) (hy : Sized y) :
    Calls Tryz.prog 45 #[.string x, .string y] w fun e w' => e = .returned (.tuple #[.string (divS x y).1, .string (divS x y).2.1, .int .i64 (divS x y).2.2]) ∧ Below w.heap.size w w' := by
  rcases str_cases x y hx hy with ⟨a, b, rfl, rfl, ha, hb⟩ | ⟨h1, h2⟩
  · by_cases h0 : b = 0
    · subst h0
      have : divS (intB a) (intB 0) = (⟨#[]⟩, ⟨#[]⟩, 30) := by unfold divS; rw [readI_int ha, readI_int hb]; rfl
      rw [this]; exact div_zero a ha w
    · rw [divS_ints ha hb h0]; exact div_ok a b ha hb h0 w
  · rw [divS_no h1]; exact div_no _ _ w (h2 w)
theorem sized_divS (x y : ByteArray) : Sized (divS x y).1 ∧ Sized (divS x y).2.1 := by
  unfold divS
  split
  · rename_i a b h1 h2
    split
    · exact ⟨sized_nil, sized_nil⟩
    · rename_i h0
      refine ⟨sized_fits (Nat.lt_of_le_of_lt (Int.natAbs_ediv_le_natAbs a b) (readI_some h1).2), sized_fits ?_⟩
      have h3 := (readI_some h2).2
      obtain ⟨_, e2, e3⟩ := ediv_spec a b h0
      unfold Fits at *; omega
  · exact ⟨sized_nil, sized_nil⟩
theorem quo_of_div (x y : ByteArray) : op2 quoF x y = ((divS x y).1, (divS x y).2.2) := by
  unfold op2 divS
  cases readI x with
  | none => rfl
  | some a =>
    cases readI y with
    | none => rfl
    | some b =>
      show (if b = 0 then _ else _) = ((if b = 0 then _ else _ : ByteArray × ByteArray × Int).1, (if b = 0 then _ else _ : ByteArray × ByteArray × Int).2.2)
      by_cases h : b = 0
      · rw [if_pos h, if_pos h]
      · rw [if_neg h, if_neg h]
set_option maxRecDepth 100000 in
set_option maxHeartbeats 2000000 in
theorem quo_str (x y : ByteArray) (w : World) (hx : Sized x) (hy : Sized y) : Calls Tryz.prog 114 #[.string x, .string y] w (GivesInt (op2 quoF x y).1 (op2 quoF x y).2 w) := by
  have HD := Lib.hid (div_str x y w hx hy)
  have h1 : (op2 quoF x y).1 = (divS x y).1 := by rw [quo_of_div]
  have h2 : (op2 quoF x y).2 = (divS x y).2.2 := by rw [quo_of_div]
  rw [h1, h2]
  generalize (divS x y).1 = q at *
  generalize (divS x y).2.1 = r at *
  generalize (divS x y).2.2 = k at *
  clear h1 h2 hx hy
  go_enter Tryz.func114, Tryz.ntmps114
  go_wp2_with fail
  refine HD.out.mono ?_
  rintro e w1 ⟨rfl, hB1⟩
  go_wp2_with fail
  go_ret2
  exact ⟨rfl, hB1⟩
theorem op2_quo : Op2 114 (op2 quoF) := by
  refine ⟨enters_of Tryz.func114 (by kernel_rfl) rfl, fun x y _ _ => sized_op2 (fun a b ha hb => ?_) x y, fun x y w hx hy => quo_str x y w hx hy⟩
  unfold quoF
  split
  · exact sized_nil
  · exact sized_fits (Nat.lt_of_le_of_lt (Int.natAbs_ediv_le_natAbs a b) ha)
def downF (x _y : ByteArray) : ByteArray × Int := (x, 0)
def upF (x y : ByteArray) : ByteArray × Int := if y = ⟨#[48]⟩ then (x, 0) else op2 addF x ⟨#[49]⟩
set_option maxRecDepth 100000 in
set_option maxHeartbeats 2000000 in
theorem op2_down : Op2 51 downF := by
  refine ⟨enters_of Tryz.func51 (by kernel_rfl) rfl, fun x y hx _ => hx, fun x y w hx hy => ?_⟩
  show Calls _ _ _ _ (GivesInt x 0 w)
  clear hx hy
  go_enter Tryz.func51, Tryz.ntmps51
  go_wp2_with fail
  go_ret2
  exact ⟨rfl, Below.refl _ _⟩
theorem str_eq (x y : ByteArray) : (x.toList == y.toList) = decide (x = y) := by
  by_cases h : x = y
  · subst h; simp
  · have : x.toList ≠ y.toList := fun e => h (by
      rw [ByteArray.toList_eq, ByteArray.toList_eq] at e
      cases x; cases y; congr 1; exact Array.toList_inj.1 e)
    simp [h, this]
theorem one_sized : Sized ⟨#[49]⟩ := by unfold Sized; decide
set_option maxRecDepth 100000 in
set_option maxHeartbeats 2000000 in
theorem op2_up : Op2 53 upF := by
  refine ⟨enters_of Tryz.func53 (by kernel_rfl) rfl, fun x y hx hy => ?_, fun x y w hx hy => ?_⟩
  · unfold upF; split
    · exact hx
    · exact sized_op2 (fun a b _ _ => sized_okS _) x _
  · have HA := Lib.hid (op2_add.2.2 x ⟨#[49]⟩ w hx one_sized)
    have he := str_eq y ⟨#[48]⟩
    rw [show (⟨#[48]⟩ : ByteArray).toList = [48] by decide +kernel] at he
    unfold upF
    by_cases h : y = ⟨#[48]⟩
    · rw [if_pos h]
      rw [decide_eq_true h] at he
      show Calls _ _ _ _ (GivesInt x 0 w)
      clear hx hy h HA
      go_enter Tryz.func53, Tryz.ntmps53
      go_wp2_with fail
      go_ret2
      exact ⟨rfl, Below.refl _ _⟩
    · rw [if_neg h]
      rw [decide_eq_false h] at he
      generalize (op2 addF x ⟨#[49]⟩).1 = z at *
      generalize (op2 addF x ⟨#[49]⟩).2 = k at *
      clear hx hy h
      go_enter Tryz.func53, Tryz.ntmps53
      go_wp2_with fail
      refine HA.out.mono ?_
      rintro e w1 ⟨rfl, hB1⟩
      go_wp2_with fail
      go_ret2
      exact ⟨rfl, hB1⟩
end Go.Proofs.YtippeffbdjjcfaaGreatDoor
/- RatStep: Steps: functions that a call makes and runs, which read and write variables of its own. -/
namespace Go.Proofs.YtippeffbdjjcfaaGreatDoor
open Go.RowKit Putlog

def upd (s : Nat → ByteArray) (p : Nat) (x : ByteArray) : Nat → ByteArray := fun q => if q = p then x else s q
theorem upd_same (s : Nat → ByteArray) (p : Nat) (x : ByteArray) : upd s p x p = x := if_pos rfl
theorem upd_other (s : Nat → ByteArray) {p q : Nat} (x : ByteArray) (h : q ≠ p) : upd s p x q = s q := if_neg h
/-- The variables: blocks of one text each. -/
structure VarsAt (V : List Nat) (s : Nat → ByteArray) (W : World) : Prop where
  cell : ∀ p, p ∈ V → W.heap[p]? = some (.cells #[.string (s p)] 9 (0, 0))
  sized : ∀ p, p ∈ V → Sized (s p)
/-- Everything but the variables stays. -/
structure KeptV (V : List Nat) (K W : World) : Prop where
  os : W.os = K.os
  tape : W.tape = K.tape
  output : W.output = K.output
  size : K.heap.size ≤ W.heap.size
  block : ∀ k, k < K.heap.size → k ∉ V → W.heap[k]? = K.heap[k]?
theorem KeptV.refl (V : List Nat) (W : World) : KeptV V W W := ⟨rfl, rfl, rfl, Nat.le_refl _, fun _ _ _ => rfl⟩
theorem KeptV.trans {V : List Nat} {A B C : World} (h : KeptV V A B) (k : KeptV V B C) : KeptV V A C :=
  ⟨k.os.trans h.os, k.tape.trans h.tape, k.output.trans h.output, Nat.le_trans h.size k.size, fun i hi hv => (k.block i (Nat.lt_of_lt_of_le hi h.size) hv).trans (h.block i hi hv)⟩
theorem KeptV.of_below {V : List Nat} {A B : World} (h : Below A.heap.size A B) : KeptV V A B := ⟨h.os, h.tape, h.output, h.size, fun k hk _ => h.block k hk⟩
theorem KeptV.mono {V V' : List Nat} {A B : World} (h : KeptV V A B) (hv : ∀ p, p ∈ V → p ∈ V') : KeptV V' A B := ⟨h.os, h.tape, h.output, h.size, fun k hk hn => h.block k hk (fun e => hn (hv k e))⟩
theorem KeptV.drop {V : List Nat} {c : Nat} {A B : World} (h : KeptV (c :: V) A B) (hc : A.heap.size ≤ c) : KeptV V A B :=
  ⟨h.os, h.tape, h.output, h.size, fun k hk hn => h.block k hk (fun e => (List.mem_cons.1 e).elim (fun e => by omega) hn)⟩
theorem KeptV.below {V : List Nat} {w A B : World} {base : Nat} (h : KeptV V A B) (hb : Below base w A) (hs : base ≤ A.heap.size) (hv : ∀ p, p ∈ V → base ≤ p) : Below base w B :=
  ⟨h.os.trans hb.os, h.tape.trans hb.tape, h.output.trans hb.output, Nat.le_trans hb.size h.size, fun k hk => (h.block k (Nat.lt_of_lt_of_le hk hs) (fun e => by have := hv k e; omega)).trans (hb.block k hk)⟩
theorem KeptV.drew {V : List Nat} {A B : World} (h : KeptV V A B) (n : Nat) : KeptV V A (B.drewN n) := ⟨h.os, h.tape, h.output, h.size, h.block⟩
theorem VarsAt.via {V : List Nat} {s : Nat → ByteArray} {W W' : World} (h : VarsAt V s W) (hB : Below W.heap.size W W') : VarsAt V s W' := ⟨fun p hp => heap_below hB (h.cell p hp), h.sized⟩
theorem VarsAt.lt {V : List Nat} {s : Nat → ByteArray} {W : World} (h : VarsAt V s W) {p : Nat} (hp : p ∈ V) : p < W.heap.size := (Array.getElem?_eq_some_iff.1 (h.cell p hp)).1
theorem cell_one {W : World} {p : Nat} {v : Value} {t : TypeId} (h : W.heap[p]? = some (.cells #[v] t (0, 0))) : W.cell? ⟨p, 0, none⟩ = some v ∧ W.frozen? ⟨p, 0, none⟩ = false :=
  ⟨(cell_of_row W p 0 _ _ _ h).trans rfl, frozen_of_row W p 0 _ _ h⟩
theorem cell2 {W : World} {p : Nat} {x y : Value} {t : TypeId} (h : W.heap[p]? = some (.cells #[x, y] t (0, 0))) : W.cell? ⟨p, 0, none⟩ = some x ∧ W.frozen? ⟨p, 0, none⟩ = false := ⟨(cell_of_row W p 0 _ _ _ h).trans rfl, frozen_of_row W p 0 _ _ h⟩
theorem cell2b {W : World} {p : Nat} {x y : Value} {t : TypeId} (h : W.heap[p]? = some (.cells #[x, y] t (0, 0))) : W.cell? ⟨p, 1, none⟩ = some y ∧ W.frozen? ⟨p, 1, none⟩ = false := ⟨(cell_of_row W p 1 _ _ _ h).trans rfl, frozen_of_row W p 1 _ _ h⟩
theorem KeptV.cell {V : List Nat} {A B : World} (h : KeptV V A B) {p i : Nat} {v : Value} (hc : A.cell? ⟨p, i, none⟩ = some v) (hp : p ∉ V) : B.cell? ⟨p, i, none⟩ = some v := by
  have := h.block p (lt_of_cell hc) hp
  rw [← hc]; simp only [World.cell?, this]
theorem KeptV.heap {V : List Nat} {A B : World} (h : KeptV V A B) {p : Nat} {o : Obj} (hc : A.heap[p]? = some o) (hp : p ∉ V) : B.heap[p]? = some o := (h.block p (Array.getElem?_eq_some_iff.1 hc).1 hp).trans hc
/-- A variable written. -/
theorem VarsAt.set {V : List Nat} {s : Nat → ByteArray} {W : World} (h : VarsAt V s W) {p : Nat} (hp : p ∈ V) {x : ByteArray} (hx : Sized x) : VarsAt V (upd s p x) (W.setCell ⟨p, 0, none⟩ (.string x)) := by
  refine ⟨fun q hq => ?_, fun q hq => ?_⟩
  · by_cases e : q = p
    · subst e
      rw [upd_same]
      exact heap_setCell_same W _ 0 _ _ (.string x) (h.cell q hq)
    · rw [upd_other _ _ e, heap_setCell_other _ _ _ _ e]
      exact h.cell q hq
  · by_cases e : q = p
    · subst e; rw [upd_same]; exact hx
    · rw [upd_other _ _ e]; exact h.sized q hq
theorem KeptV.set {V : List Nat} {A B : World} (h : KeptV V A B) {p i : Nat} (hp : p ∈ V) (v : Value) : KeptV V A (B.setCell ⟨p, i, none⟩ v) :=
  ⟨h.os, h.tape, h.output, by rw [World.size_setCell]; exact h.size, fun k hk hn => (heap_setCell_other B ⟨p, i, none⟩ k v (fun e => hn (by rw [show k = p from e]; exact hp))).trans (h.block k hk hn)⟩
theorem cell_rowN (w : World) (cs : Array Value) (t : TypeId) (i : Nat) {v : Value} (h : cs[i]? = some v) : (w.alloc (.cells cs t)).cell? ⟨w.heap.size, i, none⟩ = some v := (cell_of_row _ w.heap.size i _ _ _ (heap_alloc_new w _)).trans h
theorem cell_row2 (w : World) (x y : Value) (t : TypeId) : (w.alloc (.cells #[x, y] t)).cell? ⟨w.heap.size, 0, none⟩ = some x ∧ (w.alloc (.cells #[x, y] t)).cell? ⟨w.heap.size, 1, none⟩ = some y ∧ Below w.heap.size w (w.alloc (.cells #[x, y] t)) :=
  ⟨(cell_of_row _ w.heap.size 0 _ _ _ (heap_alloc_new w _)).trans rfl, (cell_of_row _ w.heap.size 1 _ _ _ (heap_alloc_new w _)).trans rfl, alloc_below _ _⟩
/-- A step: what it does to the variables, and its error. -/
def Step (V : List Nat) (K : World) (v : Value) (t : (Nat → ByteArray) → (Nat → ByteArray) × Int) : Prop :=
  (∀ s p, p ∉ V → (t s).1 p = s p) ∧
  ∃ g caps, v = .func (.func g) #[] caps ∧ (∀ args w, (callFunc g args).run Tryz.prog w = .ok (.enter g args) w) ∧
    ∀ s W, KeptV V K W → VarsAt V s W → Calls Tryz.prog g caps W fun e W' => e = .returned (.int .i64 (t s).2) ∧ KeptV V W W' ∧ VarsAt V (t s).1 W'
theorem Step.via {V : List Nat} {K K' : World} {v : Value} {t : (Nat → ByteArray) → (Nat → ByteArray) × Int} (h : Step V K v t) (hB : Below K.heap.size K K') : Step V K' v t := by
  obtain ⟨hl, g, caps, e1, e2, e3⟩ := h
  exact ⟨hl, g, caps, e1, e2, fun s W hk hv => e3 s W ((KeptV.of_below hB).trans hk) hv⟩
theorem Step.form {V : List Nat} {K : World} {v : Value} {t : (Nat → ByteArray) → (Nat → ByteArray) × Int} (h : Step V K v t) : ∃ g caps, v = .func (.func g) #[] caps := by
  obtain ⟨_, g, caps, e, _⟩ := h
  exact ⟨g, caps, e⟩
/-- A variable more, made later. -/
theorem Step.more {V : List Nat} {K K' : World} {v : Value} {t : (Nat → ByteArray) → (Nat → ByteArray) × Int} {c : Nat} (h : Step V K v t) (hB : Below K.heap.size K K') (hc : K.heap.size ≤ c) (hn : c ∉ V) : Step (c :: V) K' v t := by
  obtain ⟨hl, g, caps, e1, e2, e3⟩ := h
  refine ⟨fun s p hp => hl s p (fun e => hp (List.mem_cons_of_mem _ e)), g, caps, e1, e2, fun s W hk hv => ?_⟩
  have hk' : KeptV V K W := KeptV.drop ((KeptV.of_below hB).trans hk) hc
  have hv' : VarsAt V s W := ⟨fun p hp => hv.cell p (List.mem_cons_of_mem _ hp), fun p hp => hv.sized p (List.mem_cons_of_mem _ hp)⟩
  refine (e3 s W hk' hv').mono ?_
  rintro e W' ⟨rfl, h1, h2⟩
  refine ⟨rfl, h1.mono (fun p hp => List.mem_cons_of_mem _ hp), fun p hp => ?_, fun p hp => ?_⟩
  · rcases List.mem_cons.1 hp with rfl | hp
    · rw [hl s p hn]; exact h1.heap (hv.cell p (List.mem_cons_self ..)) hn
    · exact h2.cell p hp
  · rcases List.mem_cons.1 hp with rfl | hp
    · rw [hl s p hn]; exact hv.sized p (List.mem_cons_self ..)
    · exact h2.sized p hp
/-- What is read at an address: a text that stays, or a variable's. -/
def Reads (V : List Nat) (K : World) (p i : Nat) (f : (Nat → ByteArray) → ByteArray) : Prop :=
  ∀ s W, KeptV V K W → VarsAt V s W → W.cell? ⟨p, i, none⟩ = some (.string (f s)) ∧ Sized (f s)
theorem Reads.var {V : List Nat} {K : World} {p : Nat} (hp : p ∈ V) : Reads V K p 0 (fun s => s p) := fun _ _ _ hv => ⟨(cell_one (hv.cell p hp)).1, hv.sized p hp⟩
theorem Reads.const {V : List Nat} {K : World} {p i : Nat} {x : ByteArray} (h : K.cell? ⟨p, i, none⟩ = some (.string x)) (hp : p ∉ V) (hx : Sized x) : Reads V K p i (fun _ => x) := fun _ _ hk _ => ⟨hk.cell h hp, hx⟩
theorem Reads.via {V : List Nat} {K K' : World} {p i : Nat} {f : (Nat → ByteArray) → ByteArray} (h : Reads V K p i f) (hB : Below K.heap.size K K') : Reads V K' p i f := fun s W hk hv => h s W ((KeptV.of_below hB).trans hk) hv

def setT (r : Nat) (F : ByteArray → ByteArray → ByteArray × Int) (fa fb : (Nat → ByteArray) → ByteArray) (s : Nat → ByteArray) : (Nat → ByteArray) × Int := (upd s r (F (fa s) (fb s)).1, (F (fa s) (fb s)).2)
/-- Two loads, under names of their own. -/
def ldA : Op := Op.load 9 (Operand.tmp 9)
def ldB : Op := Op.load 9 (Operand.tmp 12)
theorem frozenBelow {w w' : World} {b i : Nat} {v : Value} (h : Below w.heap.size w w') (hc : w.cell? ⟨b, i, none⟩ = some v) (hf : w.frozen? ⟨b, i, none⟩ = false) : w'.frozen? ⟨b, i, none⟩ = false := by
  have h3 := h.block b (lt_of_cell hc)
  rw [← hf]; simp only [World.frozen?, h3]
theorem cellOther {w : World} {g b i j : Nat} {v x : Value} (h : w.cell? ⟨b, i, none⟩ = some x) (hne : b ≠ g) : (w.setCell ⟨g, j, none⟩ v).cell? ⟨b, i, none⟩ = some x := by
  rw [World.cell?_setCell_other _ _ _ _ (fun e => hne (by have e2 := congrArg Addr.block e; dsimp only at e2; omega))]; exact h
set_option maxRecDepth 100000 in
set_option maxHeartbeats 4000000 in
theorem set1_any (h : Nat) (eg : ∀ args w, (callFunc h args).run Tryz.prog w = .ok (.enter h args) w) (x y z : ByteArray) (k : Int) (bo ba bb br pa ia pb ib r : Nat) (W : World)
    (hop : ∀ W, Calls Tryz.prog h #[.string x, .string y] W (GivesInt z k W))
    (ho : W.cell? ⟨bo, 0, none⟩ = some (.func (.func h) #[] #[])) (ha : W.cell? ⟨ba, 0, none⟩ = some (.pointer (some ⟨pa, ia, none⟩))) (hb : W.cell? ⟨bb, 0, none⟩ = some (.pointer (some ⟨pb, ib, none⟩))) (hr : W.cell? ⟨br, 0, none⟩ = some (.pointer (some ⟨r, 0, none⟩)))
    (hx : W.cell? ⟨pa, ia, none⟩ = some (.string x)) (hy : W.cell? ⟨pb, ib, none⟩ = some (.string y)) (v0 : Value) (hrc : W.cell? ⟨r, 0, none⟩ = some v0) (hrf : W.frozen? ⟨r, 0, none⟩ = false)
    (n1 : bo ≠ r) (n2 : ba ≠ r) (n3 : bb ≠ r) (n4 : br ≠ r) :
    Calls Tryz.prog 95 #[.pointer (some ⟨bo, 0, none⟩), .pointer (some ⟨ba, 0, none⟩), .pointer (some ⟨bb, 0, none⟩), .pointer (some ⟨br, 0, none⟩)] W fun e W' => e = .returned (.int .i64 k) ∧ ∃ W1, Below W.heap.size W W1 ∧ W' = W1.setCell ⟨r, 0, none⟩ (.string z) := by
  have HO := Lib.hid hop
  have hA : ldA = Op.load 9 (Operand.tmp 9) := rfl
  have hB : ldB = Op.load 9 (Operand.tmp 12) := rfl
  clear hop
  go_enter Tryz.func95, Tryz.ntmps95
  go_wp2_with fail
  rw [← hA, ← hB]
  go_region_held3 (fun w' => w'.cell? ⟨bo, 0, none⟩ = some (.func (.func h) #[] #[]) ∧ w'.cell? ⟨ba, 0, none⟩ = some (.pointer (some ⟨pa, ia, none⟩)) ∧ w'.cell? ⟨bb, 0, none⟩ = some (.pointer (some ⟨pb, ib, none⟩)) ∧ w'.cell? ⟨br, 0, none⟩ = some (.pointer (some ⟨r, 0, none⟩)))
    (first | exact ⟨ho, ha, hb, hr⟩ | exact ⟨keptBelow hB1 ho, keptBelow hB1 ha, keptBelow hB1 hb, keptBelow hB1 hr⟩ | exact ⟨cellOther (keptBelow hB1 ho) n1, cellOther (keptBelow hB1 ha) n2, cellOther (keptBelow hB1 hb) n3, cellOther (keptBelow hB1 hr) n4⟩) (first
    | ((with_reducible refine (HO.out _).mono ?_); rintro e w1 ⟨rfl, hB1⟩; have hrc1 := keptBelow hB1 hrc; have hrf1 := frozenBelow hB1 hrc hrf))
  all_goals
    go_wp2_with fail
    go_ret
    exact ⟨rfl, _, undrew hB1, rfl⟩
/-- The step that set makes. -/
theorem set1_step {V : List Nat} {K : World} {h : Nat} {F : ByteArray → ByteArray → ByteArray × Int} (hF : Op2 h F) {bo ba bb br pa ia pb ib r : Nat} {fa fb : (Nat → ByteArray) → ByteArray}
    (ho : K.cell? ⟨bo, 0, none⟩ = some (.func (.func h) #[] #[])) (ha : K.cell? ⟨ba, 0, none⟩ = some (.pointer (some ⟨pa, ia, none⟩))) (hb : K.cell? ⟨bb, 0, none⟩ = some (.pointer (some ⟨pb, ib, none⟩))) (hr : K.cell? ⟨br, 0, none⟩ = some (.pointer (some ⟨r, 0, none⟩)))
    (v1 : bo ∉ V) (v2 : ba ∉ V) (v3 : bb ∉ V) (v4 : br ∉ V) (hrV : r ∈ V) (ra : Reads V K pa ia fa) (rb : Reads V K pb ib fb) :
    Step V K (.func (.func 95) #[] #[.pointer (some ⟨bo, 0, none⟩), .pointer (some ⟨ba, 0, none⟩), .pointer (some ⟨bb, 0, none⟩), .pointer (some ⟨br, 0, none⟩)]) (setT r F fa fb) := by
  refine ⟨fun s p hp => upd_other _ _ (fun e => hp (by rw [e]; exact hrV)), _, _, rfl, enters_of Tryz.func95 (by kernel_rfl) rfl, fun s W hk hv => ?_⟩
  obtain ⟨hx, sx⟩ := ra s W hk hv
  obtain ⟨hy, sy⟩ := rb s W hk hv
  obtain ⟨hrc, hrf⟩ := cell_one (hv.cell r hrV)
  refine (set1_any h hF.1 (fa s) (fb s) (F (fa s) (fb s)).1 (F (fa s) (fb s)).2 bo ba bb br pa ia pb ib r W (fun W => hF.2.2 _ _ W sx sy) (hk.cell ho v1) (hk.cell ha v2) (hk.cell hb v3) (hk.cell hr v4) hx hy _ hrc hrf
    (fun e => v1 (by rw [e]; exact hrV)) (fun e => v2 (by rw [e]; exact hrV)) (fun e => v3 (by rw [e]; exact hrV)) (fun e => v4 (by rw [e]; exact hrV))).mono ?_
  rintro e W' ⟨rfl, W1, hB, rfl⟩
  exact ⟨rfl, (KeptV.of_below hB).set hrV _, (hv.via hB).set hrV (hF.2.1 _ _ sx sy)⟩
set_option maxRecDepth 100000 in
set_option maxHeartbeats 2000000 in
theorem set_call (r h pa ia pb ib : Nat) (W : World) :
    Calls Tryz.prog 64 #[.pointer (some ⟨r, 0, none⟩), .func (.func h) #[] #[], .pointer (some ⟨pa, ia, none⟩), .pointer (some ⟨pb, ib, none⟩)] W fun e W' => e = .returned (.func (.func 95) #[] #[.pointer (some ⟨W.heap.size + 1, 0, none⟩), .pointer (some ⟨W.heap.size + 1 + 1, 0, none⟩), .pointer (some ⟨W.heap.size + 1 + 1 + 1, 0, none⟩), .pointer (some ⟨W.heap.size, 0, none⟩)]) ∧
      ∃ t1 t2 t3 t4, W' = (((W.alloc (.cells #[.pointer (some ⟨r, 0, none⟩)] t1)).alloc (.cells #[.func (.func h) #[] #[]] t2)).alloc (.cells #[.pointer (some ⟨pa, ia, none⟩)] t3)).alloc (.cells #[.pointer (some ⟨pb, ib, none⟩)] t4) := by
  go_enter Tryz.func64, Tryz.ntmps64
  go_wp2_with fail
  go_ret
  exact ⟨rfl, _, _, _, _, rfl⟩
theorem boxed4 (W : World) (a b c d : Value) (t1 t2 t3 t4 : TypeId) :
    let W' := (((W.alloc (.cells #[a] t1)).alloc (.cells #[b] t2)).alloc (.cells #[c] t3)).alloc (.cells #[d] t4)
    Below W.heap.size W W' ∧ W'.cell? ⟨W.heap.size, 0, none⟩ = some a ∧ W'.cell? ⟨W.heap.size + 1, 0, none⟩ = some b ∧ W'.cell? ⟨W.heap.size + 1 + 1, 0, none⟩ = some c ∧ W'.cell? ⟨W.heap.size + 1 + 1 + 1, 0, none⟩ = some d := by
  have z1 := alloc_size W (.cells #[a] t1)
  have c1 := cell_box W a t1
  have b1 := alloc_below W (.cells #[a] t1)
  generalize W.alloc (.cells #[a] t1) = W1 at *
  have z2 := alloc_size W1 (.cells #[b] t2)
  have c2 := cell_box W1 b t2
  have b2 := alloc_below W1 (.cells #[b] t2)
  generalize W1.alloc (.cells #[b] t2) = W2 at *
  have z3 := alloc_size W2 (.cells #[c] t3)
  have c3 := cell_box W2 c t3
  have b3 := alloc_below W2 (.cells #[c] t3)
  generalize W2.alloc (.cells #[c] t3) = W3 at *
  have c4 := cell_box W3 d t4
  have b4 := alloc_below W3 (.cells #[d] t4)
  generalize W3.alloc (.cells #[d] t4) = W4 at *
  rw [z1] at c2; rw [z2, z1] at c3; rw [z3, z2, z1] at c4
  exact ⟨belowVia b4 (belowVia b3 (belowVia b2 b1)), keptBelow b4 (keptBelow b3 (keptBelow b2 c1)), keptBelow b4 (keptBelow b3 c2), keptBelow b4 c3, c4⟩
theorem set_cells (r h pa ia pb ib : Nat) (W : World) :
    Calls Tryz.prog 64 #[.pointer (some ⟨r, 0, none⟩), .func (.func h) #[] #[], .pointer (some ⟨pa, ia, none⟩), .pointer (some ⟨pb, ib, none⟩)] W fun e W' => e = .returned (.func (.func 95) #[] #[.pointer (some ⟨W.heap.size + 1, 0, none⟩), .pointer (some ⟨W.heap.size + 1 + 1, 0, none⟩), .pointer (some ⟨W.heap.size + 1 + 1 + 1, 0, none⟩), .pointer (some ⟨W.heap.size, 0, none⟩)]) ∧
      Below W.heap.size W W' ∧ W'.cell? ⟨W.heap.size, 0, none⟩ = some (.pointer (some ⟨r, 0, none⟩)) ∧ W'.cell? ⟨W.heap.size + 1, 0, none⟩ = some (.func (.func h) #[] #[]) ∧ W'.cell? ⟨W.heap.size + 1 + 1, 0, none⟩ = some (.pointer (some ⟨pa, ia, none⟩)) ∧ W'.cell? ⟨W.heap.size + 1 + 1 + 1, 0, none⟩ = some (.pointer (some ⟨pb, ib, none⟩)) := by
  refine (set_call r h pa ia pb ib W).mono ?_
  rintro e W' ⟨rfl, t1, t2, t3, t4, rfl⟩
  obtain ⟨hb, c1, c2, c3, c4⟩ := boxed4 W (.pointer (some ⟨r, 0, none⟩)) (.func (.func h) #[] #[]) (.pointer (some ⟨pa, ia, none⟩)) (.pointer (some ⟨pb, ib, none⟩)) t1 t2 t3 t4
  exact ⟨rfl, hb, c1, c2, c3, c4⟩
theorem set_step {V : List Nat} {W : World} {h : Nat} {F : ByteArray → ByteArray → ByteArray × Int} (hF : Op2 h F) {pa ia pb ib r : Nat} {fa fb : (Nat → ByteArray) → ByteArray}
    (hV : ∀ p, p ∈ V → p < W.heap.size) (hrV : r ∈ V) (ra : Reads V W pa ia fa) (rb : Reads V W pb ib fb) :
    Calls Tryz.prog 64 #[.pointer (some ⟨r, 0, none⟩), .func (.func h) #[] #[], .pointer (some ⟨pa, ia, none⟩), .pointer (some ⟨pb, ib, none⟩)] W fun e W' => (∃ v, e = .returned v ∧ Step V W' v (setT r F fa fb)) ∧ Below W.heap.size W W' := by
  refine (set_call r h pa ia pb ib W).mono ?_
  rintro e W' ⟨rfl, t1, t2, t3, t4, rfl⟩
  obtain ⟨hb, c1, c2, c3, c4⟩ := boxed4 W (.pointer (some ⟨r, 0, none⟩)) (.func (.func h) #[] #[]) (.pointer (some ⟨pa, ia, none⟩)) (.pointer (some ⟨pb, ib, none⟩)) t1 t2 t3 t4
  refine ⟨⟨_, rfl, set1_step hF c2 c3 c4 c1 ?_ ?_ ?_ ?_ hrV (ra.via hb) (rb.via hb)⟩, hb⟩ <;> exact fun e => by have := hV _ e; omega
/-- Steps, one after the other: those after an error are skipped. -/
def runL (L : List (Value × ((Nat → ByteArray) → (Nat → ByteArray) × Int))) (x : (Nat → ByteArray) × Int) : (Nat → ByteArray) × Int := L.foldl (fun x p => if x.2 = 0 then p.2 x.1 else x) x
theorem runL_snoc {L : List (Value × ((Nat → ByteArray) → (Nat → ByteArray) × Int))} {k : Nat} (h : k < L.length) (x : (Nat → ByteArray) × Int) :
    runL (L.take (k + 1)) x = if (runL (L.take k) x).2 = 0 then L[k].2 (runL (L.take k) x).1 else runL (L.take k) x := by
  unfold runL
  rw [List.take_succ_eq_append_getElem h, List.foldl_append]; rfl
theorem runL_local {V : List Nat} (L : List (Value × ((Nat → ByteArray) → (Nat → ByteArray) × Int))) (hL : ∀ q ∈ L, ∀ s p, p ∉ V → (q.2 s).1 p = s p) (x : (Nat → ByteArray) × Int) (p : Nat) (hp : p ∉ V) : (runL L x).1 p = x.1 p := by
  induction L generalizing x with
  | nil => rfl
  | cons q L ih =>
    show (runL L (if x.2 = 0 then q.2 x.1 else x)).1 p = _
    rw [ih (fun q hq => hL q (List.mem_cons_of_mem _ hq))]
    split
    · exact hL q (List.mem_cons_self ..) _ _ hp
    · rfl
def runT (ts : List ((Nat → ByteArray) → (Nat → ByteArray) × Int)) (x : (Nat → ByteArray) × Int) : (Nat → ByteArray) × Int := ts.foldl (fun x t => if x.2 = 0 then t x.1 else x) x
theorem runL_map (L : List (Value × ((Nat → ByteArray) → (Nat → ByteArray) × Int))) (x : (Nat → ByteArray) × Int) : runL L x = runT (L.map Prod.snd) x := by
  unfold runL runT; rw [List.foldl_map]
def chainT (L : List (Value × ((Nat → ByteArray) → (Nat → ByteArray) × Int))) (s : Nat → ByteArray) : (Nat → ByteArray) × Int := runL L (s, 0)
/-- A slice of steps. -/
structure StepsAt (V : List Nat) (K : World) (a : Option Addr) (L : List (Value × ((Nat → ByteArray) → (Nat → ByteArray) × Int))) : Prop where
  step : ∀ q, q ∈ L → Step V K q.1 q.2
  cell : L = [] ∨ ∃ g, a = some ⟨g, 0, none⟩ ∧ g ∉ V ∧ ∀ j q, L[j]? = some q → K.cell? ⟨g, j, none⟩ = some q.1
def seqT (ts : List ((Nat → ByteArray) → (Nat → ByteArray) × Int)) (s : Nat → ByteArray) : (Nat → ByteArray) × Int := runT ts (s, 0)
theorem chain_seq (L : List (Value × ((Nat → ByteArray) → (Nat → ByteArray) × Int))) : chainT L = seqT (L.map Prod.snd) := by funext s; exact runL_map L (s, 0)
theorem StepsAt.one {V : List Nat} {K : World} {g : Nat} {v0 : Value} {t0 : (Nat → ByteArray) → (Nat → ByteArray) × Int} (s0 : Step V K v0 t0) (hg : g ∉ V) (c0 : K.cell? ⟨g, 0, none⟩ = some v0) : StepsAt V K (some ⟨g, 0, none⟩) [(v0, t0)] := by
  refine ⟨fun x hx => ?_, .inr ⟨g, rfl, hg, fun j x hj => ?_⟩⟩
  · simp only [List.mem_cons, List.not_mem_nil, or_false] at hx
    rcases hx with rfl <;> assumption
  · match j with
    | 0 => cases hj; exact c0
    | j + 1 => simp at hj
theorem StepsAt.two {V : List Nat} {K : World} {g : Nat} {v0 v1 : Value} {t0 t1 : (Nat → ByteArray) → (Nat → ByteArray) × Int} (s0 : Step V K v0 t0) (s1 : Step V K v1 t1) (hg : g ∉ V) (c0 : K.cell? ⟨g, 0, none⟩ = some v0) (c1 : K.cell? ⟨g, 1, none⟩ = some v1) : StepsAt V K (some ⟨g, 0, none⟩) [(v0, t0), (v1, t1)] := by
  refine ⟨fun x hx => ?_, .inr ⟨g, rfl, hg, fun j x hj => ?_⟩⟩
  · simp only [List.mem_cons, List.not_mem_nil, or_false] at hx
    rcases hx with rfl | rfl <;> assumption
  · match j with
    | 0 => cases hj; exact c0
    | 1 => cases hj; exact c1
    | j + 2 => simp at hj
theorem StepsAt.three {V : List Nat} {K : World} {g : Nat} {v0 v1 v2 : Value} {t0 t1 t2 : (Nat → ByteArray) → (Nat → ByteArray) × Int} (s0 : Step V K v0 t0) (s1 : Step V K v1 t1) (s2 : Step V K v2 t2) (hg : g ∉ V) (c0 : K.cell? ⟨g, 0, none⟩ = some v0) (c1 : K.cell? ⟨g, 1, none⟩ = some v1) (c2 : K.cell? ⟨g, 2, none⟩ = some v2) : StepsAt V K (some ⟨g, 0, none⟩) [(v0, t0), (v1, t1), (v2, t2)] := by
  refine ⟨fun x hx => ?_, .inr ⟨g, rfl, hg, fun j x hj => ?_⟩⟩
  · simp only [List.mem_cons, List.not_mem_nil, or_false] at hx
    rcases hx with rfl | rfl | rfl <;> assumption
  · match j with
    | 0 => cases hj; exact c0
    | 1 => cases hj; exact c1
    | 2 => cases hj; exact c2
    | j + 3 => simp at hj
theorem StepsAt.four {V : List Nat} {K : World} {g : Nat} {v0 v1 v2 v3 : Value} {t0 t1 t2 t3 : (Nat → ByteArray) → (Nat → ByteArray) × Int} (s0 : Step V K v0 t0) (s1 : Step V K v1 t1) (s2 : Step V K v2 t2) (s3 : Step V K v3 t3) (hg : g ∉ V) (c0 : K.cell? ⟨g, 0, none⟩ = some v0) (c1 : K.cell? ⟨g, 1, none⟩ = some v1) (c2 : K.cell? ⟨g, 2, none⟩ = some v2) (c3 : K.cell? ⟨g, 3, none⟩ = some v3) : StepsAt V K (some ⟨g, 0, none⟩) [(v0, t0), (v1, t1), (v2, t2), (v3, t3)] := by
  refine ⟨fun x hx => ?_, .inr ⟨g, rfl, hg, fun j x hj => ?_⟩⟩
  · simp only [List.mem_cons, List.not_mem_nil, or_false] at hx
    rcases hx with rfl | rfl | rfl | rfl <;> assumption
  · match j with
    | 0 => cases hj; exact c0
    | 1 => cases hj; exact c1
    | 2 => cases hj; exact c2
    | 3 => cases hj; exact c3
    | j + 4 => simp at hj
theorem StepsAt.five {V : List Nat} {K : World} {g : Nat} {v0 v1 v2 v3 v4 : Value} {t0 t1 t2 t3 t4 : (Nat → ByteArray) → (Nat → ByteArray) × Int} (s0 : Step V K v0 t0) (s1 : Step V K v1 t1) (s2 : Step V K v2 t2) (s3 : Step V K v3 t3) (s4 : Step V K v4 t4) (hg : g ∉ V) (c0 : K.cell? ⟨g, 0, none⟩ = some v0) (c1 : K.cell? ⟨g, 1, none⟩ = some v1) (c2 : K.cell? ⟨g, 2, none⟩ = some v2) (c3 : K.cell? ⟨g, 3, none⟩ = some v3) (c4 : K.cell? ⟨g, 4, none⟩ = some v4) : StepsAt V K (some ⟨g, 0, none⟩) [(v0, t0), (v1, t1), (v2, t2), (v3, t3), (v4, t4)] := by
  refine ⟨fun x hx => ?_, .inr ⟨g, rfl, hg, fun j x hj => ?_⟩⟩
  · simp only [List.mem_cons, List.not_mem_nil, or_false] at hx
    rcases hx with rfl | rfl | rfl | rfl | rfl <;> assumption
  · match j with
    | 0 => cases hj; exact c0
    | 1 => cases hj; exact c1
    | 2 => cases hj; exact c2
    | 3 => cases hj; exact c3
    | 4 => cases hj; exact c4
    | j + 5 => simp at hj
set_option maxRecDepth 100000 in
set_option maxHeartbeats 4000000 in
theorem chain1_any {V : List Nat} {K : World} {a : Option Addr} {L : List (Value × ((Nat → ByteArray) → (Nat → ByteArray) × Int))} (hS : StepsAt V K a L) (hn : (L.length : Int) ≤ 100) {b c : Nat} (hc : K.cell? ⟨b, 0, none⟩ = some (.slice a L.length c)) (hb : b ∉ V)
    (s : Nat → ByteArray) (W : World) (hk : KeptV V K W) (hv : VarsAt V s W) :
    Calls Tryz.prog 112 #[.pointer (some ⟨b, 0, none⟩)] W fun e W' => e = .returned (.int .i64 (chainT L s).2) ∧ KeptV V W W' ∧ VarsAt V (chainT L s).1 W' := by
  have hcell := hk.cell hc hb
  have HS := Lib.hid hS
  have HK := Lib.hid hk
  have HV := Lib.hid hv
  clear hS hk hv hc
  go_enter Tryz.func112, Tryz.ntmps112
  go_wp2_with fail
  go_loopw [2, 7] (fun er i wr => ∃ k : Nat, k ≤ L.length ∧ i = .int .i64 k ∧ er = .int .i64 (runL (L.take k) (s, 0)).2 ∧ KeptV V W wr ∧ VarsAt V (runL (L.take k) (s, 0)).1 wr) (fun _ i _ => L.length - (intOf i).toNat)
  case atStart => exact ⟨0, by omega, rfl, rfl, KeptV.refl _ _, HV.out⟩
  case round =>
    obtain ⟨k, hkl, rfl, rfl, hkw, hvw⟩ := hrel
    have HKW := Lib.hid hkw
    have HVW := Lib.hid hvw
    clear hkw hvw
    by_cases hlt : k < L.length
    · have hlt' : (k : Int) < L.length := by omega
      have hrun := Lib.hid (runL_snoc hlt (s, 0))
      obtain ⟨q, hq⟩ : ∃ q, q = L[k] := ⟨_, rfl⟩
      have hqm : L[k]? = some q := by rw [hq]; exact List.getElem?_eq_getElem hlt
      have hst := HS.out.step q (by rw [hq]; exact List.getElem_mem _)
      rcases HS.out.cell with h0 | ⟨g, rfl, hg, hcs⟩
      · rw [h0] at hlt; exact absurd hlt (by simp)
      have hce := HKW.out.cell (HK.out.cell (hcs k q hqm) hg) hg
      rw [← hq] at hrun
      generalize runL (L.take k) (s, 0) = x at *
      obtain ⟨hl, f, caps, hqv, ef, hrunq⟩ := hst
      rw [hqv] at hce
      have HR := Lib.hid (hrunq x.1 wr (HK.out.trans HKW.out) HVW.out)
      clear hqv hrunq hl hqm hq hcs
      by_cases he : x.2 = 0
      · have HE := Lib.hid he
        have hrun2 := hrun.out
        rw [if_pos he] at hrun2
        have HR2 := Lib.hid hrun2
        clear hrun hrun2
        generalize x.2 = er at *
        rw [he]
        clear he
        go_wp2_with fail
        refine HR.out.mono ?_
        rintro e w2 ⟨rfl, hk2, hv2⟩
        have HK2 := Lib.hid hk2
        have HV2 := Lib.hid hv2
        clear hk2 hv2
        go_wp2_with fail
        go_roundw
        case rel => exact ⟨k + 1, by omega, by go_num, by rw [HR2.out], HKW.out.trans HK2.out, by rw [HR2.out]; exact HV2.out⟩
        case measure => simp [intOf]; omega
      · have he2 : (x.2 == 0) = false := by simp [he]
        have hrun2 := hrun.out
        rw [if_neg he] at hrun2
        have HR2 := Lib.hid hrun2
        clear hrun hrun2 HR ef
        obtain ⟨er, her⟩ : ∃ er, er = x.2 := ⟨_, rfl⟩
        rw [← her] at he2 ⊢
        have HER := Lib.hid her
        clear he her
        go_wp2_with fail
        go_roundw
        case rel => exact ⟨k + 1, by omega, by go_num, by rw [HR2.out, HER.out], HKW.out, by rw [HR2.out]; exact HVW.out⟩
        case measure => simp [intOf]; omega
    · have hle : (L.length : Int) ≤ k := by omega
      have hkk : k = L.length := by omega
      have HC : Hid (runL (L.take k) (s, 0) = chainT L s) := by
        show _ = _; rw [hkk, List.take_length]; rfl
      generalize runL (L.take k) (s, 0) = x at *
      obtain ⟨er, her⟩ : ∃ er, er = x.2 := ⟨_, rfl⟩
      rw [← her]
      have HER := Lib.hid her
      clear hkk her hlt
      go_wp2_with fail
      go_ret
      exact ⟨by rw [HER.out, HC.out]; rfl, HKW.out, by rw [← HC.out]; exact HVW.out⟩
set_option maxRecDepth 100000 in
set_option maxHeartbeats 2000000 in
theorem chain_call (v : Value) (hv : ∃ a n c, v = .slice a n c) (W : World) :
    Calls Tryz.prog 86 #[v] W fun e W' => e = .returned (.func (.func 112) #[] #[.pointer (some ⟨W.heap.size, 0, none⟩)]) ∧ ∃ t, W' = W.alloc (.cells #[v] t) := by
  obtain ⟨a, n, c, rfl⟩ := hv
  go_enter Tryz.func86, Tryz.ntmps86
  go_wp2_with fail
  go_ret
  exact ⟨rfl, _, rfl⟩
theorem chain_cells (a : Option Addr) (n c : Nat) (W : World) :
    Calls Tryz.prog 86 #[.slice a n c] W fun e W' => e = .returned (.func (.func 112) #[] #[.pointer (some ⟨W.heap.size, 0, none⟩)]) ∧ Below W.heap.size W W' ∧ W'.cell? ⟨W.heap.size, 0, none⟩ = some (.slice a n c) := by
  refine (chain_call _ ⟨_, _, _, rfl⟩ W).mono ?_
  rintro e W' ⟨rfl, t, rfl⟩
  exact ⟨rfl, alloc_below _ _, cell_box _ _ _⟩
theorem chain1_step {V : List Nat} {K : World} {a : Option Addr} {L : List (Value × ((Nat → ByteArray) → (Nat → ByteArray) × Int))} (hS : StepsAt V K a L) (hn : (L.length : Int) ≤ 100) {b c : Nat} (hc : K.cell? ⟨b, 0, none⟩ = some (.slice a L.length c)) (hb : b ∉ V) :
    Step V K (.func (.func 112) #[] #[.pointer (some ⟨b, 0, none⟩)]) (seqT (L.map Prod.snd)) := by
  rw [← chain_seq]
  exact ⟨fun _ p hp => runL_local L (fun q hq => (hS.step q hq).1) _ p hp, _, _, rfl, enters_of Tryz.func112 (by kernel_rfl) rfl, fun s W' hk hv => chain1_any hS hn hc hb s W' hk hv⟩
theorem chain_step {V : List Nat} {W : World} {a : Option Addr} {L : List (Value × ((Nat → ByteArray) → (Nat → ByteArray) × Int))} (hS : StepsAt V W a L) (hn : (L.length : Int) ≤ 100) (c : Nat) (hV : ∀ p, p ∈ V → p < W.heap.size) :
    Calls Tryz.prog 86 #[.slice a L.length c] W fun e W' => (∃ v, e = .returned v ∧ Step V W' v (seqT (L.map Prod.snd))) ∧ Below W.heap.size W W' := by
  rw [← chain_seq]
  refine (chain_call _ ⟨_, _, _, rfl⟩ W).mono ?_
  rintro e W' ⟨rfl, t, rfl⟩
  have hb := alloc_below W (.cells #[.slice a L.length c] t)
  have hc := cell_box W (.slice a L.length c) t
  have hb2 : W.heap.size ∉ V := fun e => by have := hV _ e; omega
  have hS' : StepsAt V (W.alloc (.cells #[.slice a L.length c] t)) a L := by
    refine ⟨fun q hq => (hS.step q hq).via hb, ?_⟩
    rcases hS.cell with h | ⟨g, h1, h2, h3⟩
    · exact .inl h
    · exact .inr ⟨g, h1, h2, fun j q hq => keptBelow hb (h3 j q hq)⟩
  refine ⟨⟨_, rfl, fun s p hp => runL_local L (fun q hq => (hS.step q hq).1) _ p hp, _, _, rfl, enters_of Tryz.func112 (by kernel_rfl) rfl, fun s W' hk hv => ?_⟩, hb⟩
  exact chain1_any hS' hn hc hb2 s W' hk hv
end Go.Proofs.YtippeffbdjjcfaaGreatDoor
/- RatValid: The contract of Valid, and of the step that asks for valid fractions. -/
namespace Go.Proofs.YtippeffbdjjcfaaGreatDoor
open Go.RowKit Putlog

theorem cmpI_pos {b : Int} : 0 < cmpI b 0 ↔ 0 < b := by unfold cmpI; split <;> (try split) <;> omega
theorem valid_eq (n d : ByteArray) : (readQ n d).isSome = (decide ((op2 gcdF n d).1 = ⟨#[49]⟩) && decide (0 < cmpS d ⟨#[48]⟩)) := by
  have f0 : Fits 0 := by decide
  rcases readI_cases n with ⟨a, rfl, ha, ra⟩ | ⟨_, ra⟩
  · rcases readI_cases d with ⟨b, rfl, hb, rb⟩ | ⟨_, rb⟩
    · rw [op2_ints ha hb, readQ_ints ha hb, ← intB_zero, cmpS_ints hb f0, ← intB_one]
      have h1 : (gcdF a b).1 = intB (Int.gcd a b : Nat) := rfl
      rw [h1]
      have h2 : intB (Int.gcd a b : Nat) = intB 1 ↔ Int.gcd a b = 1 := ⟨fun e => by have := intB_inj e; omega, fun e => by rw [e]; rfl⟩
      by_cases c1 : Int.gcd a b = 1
      · rw [decide_eq_true (h2.2 c1), Bool.true_and]
        by_cases c2 : 0 < b
        · rw [if_pos ⟨c2, c1⟩, decide_eq_true (cmpI_pos.2 c2)]; rfl
        · rw [if_neg (fun h => c2 h.1), decide_eq_false (fun h => c2 (cmpI_pos.1 h))]; rfl
      · rw [if_neg (fun h => c1 h.2), decide_eq_false (fun h => c1 (h2.1 h)), Bool.false_and]; rfl
    · rw [readQ_no2 rb, op2_no (.inr rb)]; rfl
  · rw [readQ_no1 ra, op2_no (.inl ra)]; rfl
theorem zero_sized : Sized ⟨#[48]⟩ := by unfold Sized; decide
set_option maxRecDepth 100000 in
set_option maxHeartbeats 2000000 in
theorem valid_q (n d : ByteArray) (hn : Sized n) (hd : Sized d) (w : World) :
    Calls Tryz.prog 26 #[.agg #[.string n, .string d]] w fun e w' => e = .returned (.bool (readQ n d).isSome) ∧ Below w.heap.size w w' := by
  rw [valid_eq]
  have HG := Lib.hid (fun W => op2_gcd.2.2 n d W hn hd)
  have HC := Lib.hid (fun W => cmp_str d ⟨#[48]⟩ W hd zero_sized)
  have he := str_eq (op2 gcdF n d).1 ⟨#[49]⟩
  rw [show (⟨#[49]⟩ : ByteArray).toList = [49] by decide +kernel] at he
  generalize (op2 gcdF n d).1 = c at *
  generalize (op2 gcdF n d).2 = k at *
  generalize cmpS d ⟨#[48]⟩ = m at *
  clear hn hd
  obtain ⟨p, hp⟩ : ∃ p, p = decide (c = ⟨#[49]⟩) := ⟨_, rfl⟩
  rw [← hp] at he ⊢
  clear hp
  have h1 := cell_row2 w (.string n) (.string d) 23
  obtain ⟨k1, k2, kb⟩ := h1
  have KB := Lib.hid kb
  clear kb
  cases p with
  | true =>
    go_enter Tryz.func26, Tryz.ntmps26
    go_wp2_with fail
    refine (HG.out _).mono ?_
    rintro e w1 ⟨rfl, hB1⟩
    have k3 := keptBelow hB1 k2
    have HB1 := Lib.hid hB1
    clear hB1
    go_wp2_with fail
    refine (HC.out _).mono ?_
    rintro e w2 ⟨rfl, hB2⟩
    go_wp2_with fail
    go_ret
    exact ⟨by simp, belowVia hB2 (belowVia HB1.out KB.out)⟩
  | false =>
    go_enter Tryz.func26, Tryz.ntmps26
    go_wp2_with fail
    refine (HG.out _).mono ?_
    rintro e w1 ⟨rfl, hB1⟩
    have k3 := keptBelow hB1 k2
    have HB1 := Lib.hid hB1
    clear hB1
    go_wp2_with fail
    go_ret
    exact ⟨by simp, belowVia HB1.out KB.out⟩
def checkT (ok : Bool) (s : Nat → ByteArray) : (Nat → ByteArray) × Int := (s, if ok then 0 else 40)
/-- A slice of fractions' texts. -/
def FracsAt (K : World) (g : Nat) (l : List (ByteArray × ByteArray)) : Prop := ∀ j q, l[j]? = some q → K.cell? ⟨g, j * 2, none⟩ = some (.string q.1) ∧ K.cell? ⟨g, j * 2 + 1, none⟩ = some (.string q.2)
def okAll (l : List (ByteArray × ByteArray)) : Bool := l.all fun q => (readQ q.1 q.2).isSome
set_option maxRecDepth 100000 in
set_option maxHeartbeats 4000000 in
theorem fractions1_any {V : List Nat} {K : World} {g : Nat} {l : List (ByteArray × ByteArray)} (hF : FracsAt K g l) (hg : g ∉ V) (hl : ∀ q ∈ l, Sized q.1 ∧ Sized q.2) (hn : (l.length : Int) ≤ 100) {b c : Nat} (hc : K.cell? ⟨b, 0, none⟩ = some (.slice (some ⟨g, 0, none⟩) l.length c)) (hb : b ∉ V)
    (W : World) (hk : KeptV V K W) :
    Calls Tryz.prog 94 #[.pointer (some ⟨b, 0, none⟩)] W fun e W' => e = .returned (.int .i64 (if okAll l then 0 else 40)) ∧ Below W.heap.size W W' := by
  have hcell := hk.cell hc hb
  have HK := Lib.hid hk
  have HF := Lib.hid hF
  have HL := Lib.hid hl
  obtain ⟨er, her⟩ : ∃ er : Int, er = if okAll l then 0 else 40 := ⟨_, rfl⟩
  rw [← her]
  have HER := Lib.hid her
  clear hk hc hF hl her
  go_enter Tryz.func94, Tryz.ntmps94
  go_wp2_with fail
  go_loopw [6] (fun i wr => ∃ k : Nat, k ≤ l.length ∧ i = .int .i64 k ∧ okAll (l.take k) = true ∧ Below W.heap.size W wr) (fun i _ => l.length - (intOf i).toNat)
  case atStart => exact ⟨0, by omega, rfl, rfl, Below.refl _ _⟩
  case round =>
    obtain ⟨k, hkl, rfl, hok, hB⟩ := hrel
    have HOK := Lib.hid hok
    have HB := Lib.hid hB
    clear hok hB
    by_cases hlt : k < l.length
    · have hlt' : (k : Int) < l.length := by omega
      obtain ⟨q, hq⟩ : ∃ q, q = l[k] := ⟨_, rfl⟩
      have hqm : l[k]? = some q := by rw [hq]; exact List.getElem?_eq_getElem hlt
      obtain ⟨x1, x2⟩ := HF.out k q hqm
      have hx1 := keptBelow HB.out (HK.out.cell x1 hg)
      have hx2 := keptBelow HB.out (HK.out.cell x2 hg)
      obtain ⟨sz1, sz2⟩ := HL.out q (by rw [hq]; exact List.getElem_mem _)
      have HVQ := Lib.hid (fun W => valid_q q.1 q.2 sz1 sz2 W)
      clear x1 x2 sz1 sz2
      have HT : Hid (okAll (l.take (k + 1)) = (readQ q.1 q.2).isSome) := by
        show _ = _
        have h := HOK.out
        unfold okAll at *
        rw [List.take_succ_eq_append_getElem hlt, List.all_append, h, ← hq]; simp
      have HN : Hid ((readQ q.1 q.2).isSome = false → er = 40) := fun h => by
        have h2 : okAll l = false := by
          unfold okAll
          rw [List.all_eq_false]
          exact ⟨q, by rw [hq]; exact List.getElem_mem _, by rw [h]; simp⟩
        rw [HER.out, h2]; rfl
      obtain ⟨r, hr⟩ : ∃ r, r = (readQ q.1 q.2).isSome := ⟨_, rfl⟩
      rw [← hr] at HVQ HT HN
      clear hr hqm
      obtain ⟨qx, qy⟩ := q
      dsimp only at *
      clear hq
      cases r with
      | true =>
        go_wp2_with fail
        refine (HVQ.out _).mono ?_
        rintro e w2 ⟨rfl, hB2⟩
        have HB2 := Lib.hid (belowVia hB2 (belowVia (alloc_below _ _) HB.out))
        clear hB2
        go_wp2_with fail
        go_roundw
        case rel => exact ⟨k + 1, by omega, by go_num, HT.out, HB2.out⟩
        case measure => simp [intOf]; omega
      | false =>
        have H40 := Lib.hid (HN.out rfl)
        clear HN HT
        go_wp2_with fail
        refine (HVQ.out _).mono ?_
        rintro e w2 ⟨rfl, hB2⟩
        have HB2 := Lib.hid (belowVia hB2 (belowVia (alloc_below _ _) HB.out))
        clear hB2
        go_wp2_with fail
        go_ret
        exact ⟨by rw [H40.out]; rfl, HB2.out⟩
    · have hle : (l.length : Int) ≤ k := by omega
      have hkk : k = l.length := by omega
      have HO2 : Hid (er = 0) := by
        show _ = _; have := HOK.out; rw [hkk, List.take_length] at this; rw [HER.out, this]; rfl
      clear hkk hlt
      go_wp2_with fail
      go_ret
      exact ⟨by rw [HO2.out]; rfl, HB.out⟩
set_option maxRecDepth 100000 in
set_option maxHeartbeats 2000000 in
theorem fractions_call (g n c : Nat) (W : World) :
    Calls Tryz.prog 63 #[.slice (some ⟨g, 0, none⟩) n c] W fun e W' => e = .returned (.func (.func 94) #[] #[.pointer (some ⟨W.heap.size, 0, none⟩)]) ∧ ∃ t, W' = W.alloc (.cells #[.slice (some ⟨g, 0, none⟩) n c] t) := by
  go_enter Tryz.func63, Tryz.ntmps63
  go_wp2_with fail
  go_ret
  exact ⟨rfl, _, rfl⟩
theorem fractions_step {V : List Nat} {W : World} {g : Nat} {l : List (ByteArray × ByteArray)} (hF : FracsAt W g l) (hg : g ∉ V) (hl : ∀ q ∈ l, Sized q.1 ∧ Sized q.2) (hn : (l.length : Int) ≤ 100) (c : Nat) (hV : ∀ p, p ∈ V → p < W.heap.size) :
    Calls Tryz.prog 63 #[.slice (some ⟨g, 0, none⟩) l.length c] W fun e W' => (∃ v, e = .returned v ∧ Step V W' v (checkT (okAll l))) ∧ Below W.heap.size W W' := by
  refine (fractions_call g _ c W).mono ?_
  rintro e W' ⟨rfl, t, rfl⟩
  have hb := alloc_below W (.cells #[.slice (some ⟨g, 0, none⟩) l.length c] t)
  have hc := cell_box W (.slice (some ⟨g, 0, none⟩) l.length c) t
  have hb2 : W.heap.size ∉ V := fun e => by have := hV _ e; omega
  have hF' : FracsAt (W.alloc (.cells #[.slice (some ⟨g, 0, none⟩) l.length c] t)) g l := fun j q hq => ⟨keptBelow hb (hF j q hq).1, keptBelow hb (hF j q hq).2⟩
  refine ⟨⟨_, rfl, fun _ _ _ => rfl, _, _, rfl, enters_of Tryz.func94 (by kernel_rfl) rfl, fun s W' hk hv => ?_⟩, hb⟩
  refine (fractions1_any hF' hg hl hn hc hb2 W' hk).mono ?_
  rintro e W'' ⟨rfl, hB⟩
  exact ⟨rfl, KeptV.of_below hB, hv.via hB⟩
end Go.Proofs.YtippeffbdjjcfaaGreatDoor
/- RatPos: The step that makes the denominator positive. -/
namespace Go.Proofs.YtippeffbdjjcfaaGreatDoor
open Go.RowKit Putlog

def negT (n d : Nat) : (Nat → ByteArray) → (Nat → ByteArray) × Int := seqT [setT n (op2 subF) (fun _ => ⟨#[48]⟩) (fun s => s n), setT d (op2 subF) (fun _ => ⟨#[48]⟩) (fun s => s d)]
def posT (n d : Nat) (s : Nat → ByteArray) : (Nat → ByteArray) × Int := if s d = ⟨#[48]⟩ then (s, 40) else if cmpS (s d) ⟨#[48]⟩ < 0 then negT n d s else (s, 0)
set_option maxRecDepth 100000 in
set_option maxHeartbeats 4000000 in
theorem pos1_any {V : List Nat} {K : World} {n d : Nat} (hdV : d ∈ V) {b bx : Nat} (hb : K.cell? ⟨b, 0, none⟩ = some (.pointer (some ⟨d, 0, none⟩))) (hbV : b ∉ V) {v : Value} (hx : K.cell? ⟨bx, 0, none⟩ = some v) (hxV : bx ∉ V)
    (hS : Step V K v (negT n d)) (s : Nat → ByteArray) (W : World) (hk : KeptV V K W) (hv : VarsAt V s W) :
    Calls Tryz.prog 113 #[.pointer (some ⟨b, 0, none⟩), .pointer (some ⟨bx, 0, none⟩)] W fun e W' => e = .returned (.int .i64 (posT n d s).2) ∧ KeptV V W W' ∧ VarsAt V (posT n d s).1 W' := by
  have c1 := hk.cell hb hbV
  have c2 := hk.cell hx hxV
  have c3 := (cell_one (hv.cell d hdV)).1
  have sd := hv.sized d hdV
  have HC := Lib.hid (fun W => cmp_str (s d) ⟨#[48]⟩ W sd zero_sized)
  have he := str_eq (s d) ⟨#[48]⟩
  rw [show (⟨#[48]⟩ : ByteArray).toList = [48] by decide +kernel] at he
  obtain ⟨_, f, caps, rfl, ef, hrun⟩ := hS
  have HR := Lib.hid hrun
  have HK := Lib.hid hk
  have HV := Lib.hid hv
  obtain ⟨x, hxx⟩ : ∃ x, x = s d := ⟨_, rfl⟩
  rw [← hxx] at c3 HC he
  clear hrun hk hv sd hb hx
  by_cases h0 : x = ⟨#[48]⟩
  · rw [decide_eq_true h0] at he
    have hp : posT n d s = (s, 40) := by unfold posT; rw [← hxx, if_pos h0]
    rw [hp]
    clear hp h0 hxx
    go_enter Tryz.func113, Tryz.ntmps113
    go_wp2_with fail
    go_ret
    exact ⟨rfl, KeptV.refl _ _, HV.out⟩
  · rw [decide_eq_false h0] at he
    by_cases hneg : cmpS x ⟨#[48]⟩ < 0
    · have hp : posT n d s = negT n d s := by unfold posT; rw [← hxx, if_neg h0, if_pos hneg]
      rw [hp]
      generalize cmpS x ⟨#[48]⟩ = m at *
      clear hp h0 hxx
      go_enter Tryz.func113, Tryz.ntmps113
      go_wp2_with fail
      refine (HC.out _).mono ?_
      rintro e w1 ⟨rfl, hB1⟩
      have c4 := keptBelow hB1 c2
      have HR1 := Lib.hid (HR.out s w1 (HK.out.trans (KeptV.of_below hB1)) (HV.out.via hB1))
      have HB1 := Lib.hid hB1
      clear hB1
      go_wp2_with fail
      refine HR1.out.mono ?_
      rintro e w2 ⟨rfl, hk2, hv2⟩
      have HK2 := Lib.hid hk2
      have HV2 := Lib.hid hv2
      clear hk2 hv2
      go_wp2_with fail
      go_ret
      exact ⟨rfl, (KeptV.of_below HB1.out).trans HK2.out, HV2.out⟩
    · have hp : posT n d s = (s, 0) := by unfold posT; rw [← hxx, if_neg h0, if_neg hneg]
      rw [hp]
      have hneg' : 0 ≤ cmpS x ⟨#[48]⟩ := by omega
      generalize cmpS x ⟨#[48]⟩ = m at *
      clear hp h0 hxx hneg
      go_enter Tryz.func113, Tryz.ntmps113
      go_wp2_with fail
      refine (HC.out _).mono ?_
      rintro e w1 ⟨rfl, hB1⟩
      have HB1 := Lib.hid hB1
      clear hB1
      go_wp2_with fail
      go_ret
      exact ⟨rfl, KeptV.of_below HB1.out, HV.out.via HB1.out⟩
/-- What the cells say. -/
theorem pos_made {V : List Nat} {K : World} {n d base z b bx q g p1 p2 c : Nat} (hV : ∀ p, p ∈ V → p < base) (hnV : n ∈ V) (hdV : d ∈ V)
    (hz : K.cell? ⟨z, 0, none⟩ = some (.string ⟨#[48]⟩))
    (hb : K.cell? ⟨b, 0, none⟩ = some (.pointer (some ⟨d, 0, none⟩)))
    (hx : K.cell? ⟨bx, 0, none⟩ = some (.func (.func 112) #[] #[.pointer (some ⟨q, 0, none⟩)]))
    (hq : K.cell? ⟨q, 0, none⟩ = some (.slice (some ⟨g, 0, none⟩) 2 c))
    (h0 : K.cell? ⟨g, 0, none⟩ = some (.func (.func 95) #[] #[.pointer (some ⟨p1 + 1, 0, none⟩), .pointer (some ⟨p1 + 1 + 1, 0, none⟩), .pointer (some ⟨p1 + 1 + 1 + 1, 0, none⟩), .pointer (some ⟨p1, 0, none⟩)]))
    (h1 : K.cell? ⟨g, 1, none⟩ = some (.func (.func 95) #[] #[.pointer (some ⟨p2 + 1, 0, none⟩), .pointer (some ⟨p2 + 1 + 1, 0, none⟩), .pointer (some ⟨p2 + 1 + 1 + 1, 0, none⟩), .pointer (some ⟨p2, 0, none⟩)]))
    (a0 : K.cell? ⟨p1, 0, none⟩ = some (.pointer (some ⟨n, 0, none⟩))) (a1 : K.cell? ⟨p1 + 1, 0, none⟩ = some (.func (.func 66) #[] #[])) (a2 : K.cell? ⟨p1 + 1 + 1, 0, none⟩ = some (.pointer (some ⟨z, 0, none⟩))) (a3 : K.cell? ⟨p1 + 1 + 1 + 1, 0, none⟩ = some (.pointer (some ⟨n, 0, none⟩)))
    (b0 : K.cell? ⟨p2, 0, none⟩ = some (.pointer (some ⟨d, 0, none⟩))) (b1 : K.cell? ⟨p2 + 1, 0, none⟩ = some (.func (.func 66) #[] #[])) (b2 : K.cell? ⟨p2 + 1 + 1, 0, none⟩ = some (.pointer (some ⟨z, 0, none⟩))) (b3 : K.cell? ⟨p2 + 1 + 1 + 1, 0, none⟩ = some (.pointer (some ⟨d, 0, none⟩)))
    (lz : base ≤ z) (lb : base ≤ b) (lx : base ≤ bx) (lq : base ≤ q) (lg : base ≤ g) (l1 : base ≤ p1) (l2 : base ≤ p2) :
    Step V K (.func (.func 113) #[] #[.pointer (some ⟨b, 0, none⟩), .pointer (some ⟨bx, 0, none⟩)]) (posT n d) := by
  have no : ∀ p, base ≤ p → p ∉ V := fun p hp e => by have := hV p e; omega
  have s1 := set1_step op2_sub a1 a2 a3 a0 (no _ (by omega)) (no _ (by omega)) (no _ (by omega)) (no _ (by omega)) hnV (Reads.const hz (no _ lz) zero_sized) (Reads.var hnV)
  have s2 := set1_step op2_sub b1 b2 b3 b0 (no _ (by omega)) (no _ (by omega)) (no _ (by omega)) (no _ (by omega)) hdV (Reads.const hz (no _ lz) zero_sized) (Reads.var hdV)
  have hst : Step V K _ (negT n d) := chain1_step (StepsAt.two s1 s2 (no _ lg) h0 h1) (by simp) hq (no _ lq)
  have hl : ∀ s p, p ∉ V → (posT n d s).1 p = s p := fun s p hp => by
    unfold posT
    split
    · rfl
    · split
      · exact hst.1 s p hp
      · rfl
  exact ⟨hl, _, _, rfl, enters_of Tryz.func113 (by kernel_rfl) rfl, fun s W hk hv => pos1_any hdV hb (no _ lb) hx (no _ lx) hst s W hk hv⟩
theorem posKeep {w2 w w1 : World} {p : Nat} {v : Value} (h : w.cell? ⟨p, 0, none⟩ = some v ∧ Below w2.heap.size w2 w) (hB : Below w.heap.size w w1) : w1.cell? ⟨p, 0, none⟩ = some v ∧ Below w2.heap.size w2 w1 := ⟨keptBelow hB h.1, belowVia hB h.2⟩
theorem posStore {w2 w : World} {p x : Nat} {v y : Value} (h : w.cell? ⟨p, 0, none⟩ = some v ∧ Below w2.heap.size w2 w) (hp : p < x) (hx : w2.heap.size ≤ x) : (w.setCell ⟨x, 0, none⟩ y).cell? ⟨p, 0, none⟩ = some v ∧ Below w2.heap.size w2 (w.setCell ⟨x, 0, none⟩ y) := ⟨cellOther h.1 (by omega), h.2.setCell (p := ⟨x, 0, none⟩) hx y⟩
theorem posSwap {w2 w : World} {p : Nat} {v : Value} {o o' : Obj} (h : (w.alloc o).cell? ⟨p, 0, none⟩ = some v ∧ Below w2.heap.size w2 (w.alloc o)) (hp : p < w.heap.size) (hw : w2.heap.size ≤ w.heap.size) : (w.alloc o').cell? ⟨p, 0, none⟩ = some v ∧ Below w2.heap.size w2 (w.alloc o') := by
  have e1 := (alloc_below w o).block p hp
  have e2 := (alloc_below w o').block p hp
  refine ⟨?_, h.2.os, h.2.tape, h.2.output, by rw [alloc_size]; omega, fun k hk => ?_⟩
  · rw [← h.1]; simp only [World.cell?, e1, e2]
  · rw [← h.2.block k hk, (alloc_below w o).block k (by omega), (alloc_below w o').block k (by omega)]
def BoxAt (w : World) (x : Nat) (v : Value) : Prop := w.cell? ⟨x, 0, none⟩ = some v ∧ w.frozen? ⟨x, 0, none⟩ = false
theorem boxNew (w : World) (v : Value) (t : TypeId) : BoxAt (w.alloc (.cells #[v] t)) w.heap.size v := cell_one (heap_alloc_new w _)
theorem boxVia {w w' : World} {x : Nat} {v : Value} (hB : Below w.heap.size w w') (h : BoxAt w x v) : BoxAt w' x v := ⟨keptBelow hB h.1, frozenBelow hB h.1 h.2⟩
theorem rowA {w : World} {p : Nat} {x y : Value} {t : TypeId} (h : p = w.heap.size) : (w.alloc (.cells #[x, y] t)).cell? ⟨p, 0, none⟩ = some x := by subst h; exact (cell_row2 w x y t).1
theorem rowB {w : World} {p : Nat} {x y : Value} {t : TypeId} (h : p = w.heap.size) : (w.alloc (.cells #[x, y] t)).cell? ⟨p, 1, none⟩ = some y := by subst h; exact (cell_row2 w x y t).2.1
theorem undrewCell {w : World} {p i : Nat} {v : Value} (h : w.cell? ⟨p, i, none⟩ = some v) : w.drew.cell? ⟨p, i, none⟩ = some v := h
theorem drew_size (w : World) : w.drew.heap.size = w.heap.size := rfl
theorem sizeVia {p : Prop} {w2 w w1 : World} {B : Nat} (h : p ∧ Below B w2 w) (hB : Below w.heap.size w w1) : w2.heap.size ≤ w1.heap.size := Nat.le_trans h.2.size hB.size
set_option maxRecDepth 100000 in
set_option maxHeartbeats 4000000 in
theorem pos_step {V : List Nat} {n d : Nat} (W : World) (hV : ∀ p, p ∈ V → p < W.heap.size) (hnV : n ∈ V) (hdV : d ∈ V) :
    Calls Tryz.prog 87 #[.pointer (some ⟨n, 0, none⟩), .pointer (some ⟨d, 0, none⟩)] W fun e W' => (∃ v, e = .returned v ∧ Step V W' v (posT n d)) ∧ Below W.heap.size W W' := by
  have HS := Lib.hid (fun r h pa ia pb ib W => set_cells r h pa ia pb ib W)
  have HC := Lib.hid (fun a n c W => chain_cells a n c W)
  have HV := Lib.hid hV
  have HN := Lib.hid hnV
  have HD := Lib.hid hdV
  clear hV hnV hdV
  go_enter Tryz.func87, Tryz.ntmps87
  go_wp2_with fail
  have z1 := alloc_size W (.cells #[.pointer (some ⟨d, 0, none⟩)] 67)
  have k1 := cell_box W (.pointer (some ⟨d, 0, none⟩)) 67
  have B1 := alloc_below W (.cells #[.pointer (some ⟨d, 0, none⟩)] 67)
  generalize W.alloc (.cells #[.pointer (some ⟨d, 0, none⟩)] 67) = wa at *
  have k2 := cell_box wa (.string ⟨#[48]⟩) 9
  rw [z1] at k2
  have z2 := alloc_size wa (.cells #[.string ⟨#[48]⟩] 9)
  rw [z1] at z2
  have B2 := alloc_below wa (.cells #[.string ⟨#[48]⟩] 9)
  have k3 := keptBelow B2 k1
  have BW := Lib.hid (belowVia B2 B1)
  generalize wa.alloc (.cells #[.string ⟨#[48]⟩] 9) = w2 at *
  have hp0 : W.heap.size < w2.heap.size := by omega
  have hp1 : W.heap.size + 1 < w2.heap.size := by omega
  clear k1 B1 B2 z1 z2
  go_region_held3 (fun w' => w'.cell? ⟨W.heap.size, 0, none⟩ = some (.pointer (some ⟨d, 0, none⟩)) ∧ Below w2.heap.size w2 w')
    (first | exact ⟨k3, (Below.refl _ _).drew⟩ | exact posKeep (by assumption) (alloc_below _ _) | exact posKeep (by assumption) hB1 | exact posKeep (by assumption) hB3 | exact posKeep (by assumption) hB4 | exact posSwap (by assumption) (by omega) (by omega) | exact posStore (by assumption) (by omega) (by omega) | trace_state) (first
    | (go_at_call 64; (first | ((with_reducible refine (HS.out n _ _ _ _ _ _).mono ?_); rintro e w1 ⟨rfl, hB1, a0, a1, a2, a3⟩; have L1 : w2.heap.size ≤ w1.heap.size := sizeVia (by assumption) hB1; (first | have X1 := boxVia hB1 (boxNew _ _ _) | skip)) | ((with_reducible refine (HS.out d _ _ _ _ _ _).mono ?_); rintro e w3 ⟨rfl, hB3, b0, b1, b2, b3⟩; have L3 : w2.heap.size ≤ w3.heap.size := sizeVia (by assumption) hB3; (first | have X3 := boxVia hB3 X1 | have X3 := boxVia hB3 (boxNew _ _ _) | skip))))
    | (go_at_call 86; (with_reducible refine (HC.out _ _ _ _).mono ?_); rintro e w4 ⟨rfl, hB4, c0⟩; have L4 : w2.heap.size ≤ w4.heap.size := sizeVia (by assumption) hB4; (first | have X4 := boxVia hB4 (boxVia (alloc_below _ _) X3) | have X4 := boxVia hB4 (boxVia (alloc_below _ _) (boxNew _ _ _)) | have X4 := boxVia hB4 (boxNew _ _ _) | skip); (first | (obtain ⟨X5, X6⟩ := X4; (try simp only [alloc_size] at X5 X6); (try simp only [drew_size] at X5 X6)) | skip)))
  all_goals
    try simp only [drew_size] at a0 a1 a2 a3
    try simp only [alloc_size] at b0 b1 b2 b3
    try simp only [alloc_size] at c0
    try simp only [alloc_size] at a0 a1 a2 a3
    have HH : Hid (Below w2.heap.size w2 _) := And.right (by assumption)
    go_wp2_with fail
    go_ret
    have la := lt_of_cell a3
    have lb := lt_of_cell b3
    have lc := lt_of_cell c0
    exact ⟨⟨_, rfl, pos_made (base := W.heap.size) (z := W.heap.size + 1) HV.out HN.out HD.out
      (by repeat (first | with_reducible assumption | with_reducible exact cell_box _ _ _ | with_reducible exact rowA (by simp only [alloc_size]) | with_reducible exact rowB (by simp only [alloc_size]) | with_reducible refine cellOther ?_ (by omega) | exact World.cell?_setCell_same' _ _ _ (by rw [X5]; rfl) | with_reducible refine undrewCell ?_ | with_reducible refine keptBelow hB4 ?_ | with_reducible refine keptBelow hB3 ?_ | with_reducible refine keptBelow hB1 ?_ | with_reducible refine keptBelow (alloc_below _ _) ?_))
      (by repeat (first | with_reducible assumption | with_reducible exact cell_box _ _ _ | with_reducible exact rowA (by simp only [alloc_size]) | with_reducible exact rowB (by simp only [alloc_size]) | with_reducible refine cellOther ?_ (by omega) | exact World.cell?_setCell_same' _ _ _ (by rw [X5]; rfl) | with_reducible refine undrewCell ?_ | with_reducible refine keptBelow hB4 ?_ | with_reducible refine keptBelow hB3 ?_ | with_reducible refine keptBelow hB1 ?_ | with_reducible refine keptBelow (alloc_below _ _) ?_))
      (by repeat (first | with_reducible assumption | with_reducible exact cell_box _ _ _ | with_reducible exact rowA (by simp only [alloc_size]) | with_reducible exact rowB (by simp only [alloc_size]) | with_reducible refine cellOther ?_ (by omega) | exact World.cell?_setCell_same' _ _ _ (by rw [X5]; rfl) | with_reducible refine undrewCell ?_ | with_reducible refine keptBelow hB4 ?_ | with_reducible refine keptBelow hB3 ?_ | with_reducible refine keptBelow hB1 ?_ | with_reducible refine keptBelow (alloc_below _ _) ?_))
      (by repeat (first | with_reducible assumption | with_reducible exact cell_box _ _ _ | with_reducible exact rowA (by simp only [alloc_size]) | with_reducible exact rowB (by simp only [alloc_size]) | with_reducible refine cellOther ?_ (by omega) | exact World.cell?_setCell_same' _ _ _ (by rw [X5]; rfl) | with_reducible refine undrewCell ?_ | with_reducible refine keptBelow hB4 ?_ | with_reducible refine keptBelow hB3 ?_ | with_reducible refine keptBelow hB1 ?_ | with_reducible refine keptBelow (alloc_below _ _) ?_))
      (by repeat (first | with_reducible assumption | with_reducible exact cell_box _ _ _ | with_reducible exact rowA (by simp only [alloc_size]) | with_reducible exact rowB (by simp only [alloc_size]) | with_reducible refine cellOther ?_ (by omega) | exact World.cell?_setCell_same' _ _ _ (by rw [X5]; rfl) | with_reducible refine undrewCell ?_ | with_reducible refine keptBelow hB4 ?_ | with_reducible refine keptBelow hB3 ?_ | with_reducible refine keptBelow hB1 ?_ | with_reducible refine keptBelow (alloc_below _ _) ?_))
      (by repeat (first | with_reducible assumption | with_reducible exact cell_box _ _ _ | with_reducible exact rowA (by simp only [alloc_size]) | with_reducible exact rowB (by simp only [alloc_size]) | with_reducible refine cellOther ?_ (by omega) | exact World.cell?_setCell_same' _ _ _ (by rw [X5]; rfl) | with_reducible refine undrewCell ?_ | with_reducible refine keptBelow hB4 ?_ | with_reducible refine keptBelow hB3 ?_ | with_reducible refine keptBelow hB1 ?_ | with_reducible refine keptBelow (alloc_below _ _) ?_))
      (by repeat (first | with_reducible assumption | with_reducible exact cell_box _ _ _ | with_reducible exact rowA (by simp only [alloc_size]) | with_reducible exact rowB (by simp only [alloc_size]) | with_reducible refine cellOther ?_ (by omega) | exact World.cell?_setCell_same' _ _ _ (by rw [X5]; rfl) | with_reducible refine undrewCell ?_ | with_reducible refine keptBelow hB4 ?_ | with_reducible refine keptBelow hB3 ?_ | with_reducible refine keptBelow hB1 ?_ | with_reducible refine keptBelow (alloc_below _ _) ?_))
      (by repeat (first | with_reducible assumption | with_reducible exact cell_box _ _ _ | with_reducible exact rowA (by simp only [alloc_size]) | with_reducible exact rowB (by simp only [alloc_size]) | with_reducible refine cellOther ?_ (by omega) | exact World.cell?_setCell_same' _ _ _ (by rw [X5]; rfl) | with_reducible refine undrewCell ?_ | with_reducible refine keptBelow hB4 ?_ | with_reducible refine keptBelow hB3 ?_ | with_reducible refine keptBelow hB1 ?_ | with_reducible refine keptBelow (alloc_below _ _) ?_))
      (by repeat (first | with_reducible assumption | with_reducible exact cell_box _ _ _ | with_reducible exact rowA (by simp only [alloc_size]) | with_reducible exact rowB (by simp only [alloc_size]) | with_reducible refine cellOther ?_ (by omega) | exact World.cell?_setCell_same' _ _ _ (by rw [X5]; rfl) | with_reducible refine undrewCell ?_ | with_reducible refine keptBelow hB4 ?_ | with_reducible refine keptBelow hB3 ?_ | with_reducible refine keptBelow hB1 ?_ | with_reducible refine keptBelow (alloc_below _ _) ?_))
      (by repeat (first | with_reducible assumption | with_reducible exact cell_box _ _ _ | with_reducible exact rowA (by simp only [alloc_size]) | with_reducible exact rowB (by simp only [alloc_size]) | with_reducible refine cellOther ?_ (by omega) | exact World.cell?_setCell_same' _ _ _ (by rw [X5]; rfl) | with_reducible refine undrewCell ?_ | with_reducible refine keptBelow hB4 ?_ | with_reducible refine keptBelow hB3 ?_ | with_reducible refine keptBelow hB1 ?_ | with_reducible refine keptBelow (alloc_below _ _) ?_))
      (by repeat (first | with_reducible assumption | with_reducible exact cell_box _ _ _ | with_reducible exact rowA (by simp only [alloc_size]) | with_reducible exact rowB (by simp only [alloc_size]) | with_reducible refine cellOther ?_ (by omega) | exact World.cell?_setCell_same' _ _ _ (by rw [X5]; rfl) | with_reducible refine undrewCell ?_ | with_reducible refine keptBelow hB4 ?_ | with_reducible refine keptBelow hB3 ?_ | with_reducible refine keptBelow hB1 ?_ | with_reducible refine keptBelow (alloc_below _ _) ?_))
      (by repeat (first | with_reducible assumption | with_reducible exact cell_box _ _ _ | with_reducible exact rowA (by simp only [alloc_size]) | with_reducible exact rowB (by simp only [alloc_size]) | with_reducible refine cellOther ?_ (by omega) | exact World.cell?_setCell_same' _ _ _ (by rw [X5]; rfl) | with_reducible refine undrewCell ?_ | with_reducible refine keptBelow hB4 ?_ | with_reducible refine keptBelow hB3 ?_ | with_reducible refine keptBelow hB1 ?_ | with_reducible refine keptBelow (alloc_below _ _) ?_))
      (by repeat (first | with_reducible assumption | with_reducible exact cell_box _ _ _ | with_reducible exact rowA (by simp only [alloc_size]) | with_reducible exact rowB (by simp only [alloc_size]) | with_reducible refine cellOther ?_ (by omega) | exact World.cell?_setCell_same' _ _ _ (by rw [X5]; rfl) | with_reducible refine undrewCell ?_ | with_reducible refine keptBelow hB4 ?_ | with_reducible refine keptBelow hB3 ?_ | with_reducible refine keptBelow hB1 ?_ | with_reducible refine keptBelow (alloc_below _ _) ?_))
      (by repeat (first | with_reducible assumption | with_reducible exact cell_box _ _ _ | with_reducible exact rowA (by simp only [alloc_size]) | with_reducible exact rowB (by simp only [alloc_size]) | with_reducible refine cellOther ?_ (by omega) | exact World.cell?_setCell_same' _ _ _ (by rw [X5]; rfl) | with_reducible refine undrewCell ?_ | with_reducible refine keptBelow hB4 ?_ | with_reducible refine keptBelow hB3 ?_ | with_reducible refine keptBelow hB1 ?_ | with_reducible refine keptBelow (alloc_below _ _) ?_))
      (by omega) (by omega) (by omega) (by omega) (by omega) (by omega) (by omega)⟩, belowVia HH.out BW.out⟩
end Go.Proofs.YtippeffbdjjcfaaGreatDoor
/- RatBuilt: The steps that reduce, and what is built of steps. -/
namespace Go.Proofs.YtippeffbdjjcfaaGreatDoor
open Go.RowKit Putlog

def lowT (n d c : Nat) : (Nat → ByteArray) → (Nat → ByteArray) × Int :=
  seqT [setT c (op2 gcdF) (fun s => s n) (fun s => s d), setT n (op2 quoF) (fun s => s n) (fun s => s c), setT d (op2 quoF) (fun s => s d) (fun s => s c)]
theorem lt_more {V : List Nat} {W : World} {c : Nat} (hV : ∀ p, p ∈ V → p < W.heap.size) (hc : c < W.heap.size) : ∀ p, p ∈ c :: V → p < W.heap.size := fun p hp => by
  rcases List.mem_cons.1 hp with rfl | hp
  · exact hc
  · exact hV p hp
theorem lt_via {V : List Nat} {W W' : World} (hV : ∀ p, p ∈ V → p < W.heap.size) (hB : Below W.heap.size W W') : ∀ p, p ∈ V → p < W'.heap.size := fun p hp => Nat.lt_of_lt_of_le (hV p hp) hB.size
set_option maxRecDepth 100000 in
set_option maxHeartbeats 4000000 in
theorem low_step {V : List Nat} {n d : Nat} (W : World) (hV : ∀ p, p ∈ V → p < W.heap.size) (hnV : n ∈ V) (hdV : d ∈ V) :
    Calls Tryz.prog 88 #[.pointer (some ⟨n, 0, none⟩), .pointer (some ⟨d, 0, none⟩)] W fun e W' => (∃ v, e = .returned v ∧ Step (W.heap.size :: V) W' v (lowT n d W.heap.size)) ∧ Below W.heap.size W W' ∧ W'.heap[W.heap.size]? = some (.cells #[.string ⟨#[]⟩] 9 (0, 0)) := by
  have hcV : W.heap.size ∈ W.heap.size :: V := List.mem_cons_self ..
  have HC := Lib.hid hcV
  have HN := Lib.hid (List.mem_cons_of_mem W.heap.size hnV)
  have HD := Lib.hid (List.mem_cons_of_mem W.heap.size hdV)
  have HV := Lib.hid hV
  clear hV hcV hnV hdV
  go_enter Tryz.func88, Tryz.ntmps88
  go_wp2_with fail
  have hz := heap_alloc_new W (.cells #[.string ⟨#[]⟩] 9)
  have b1 := alloc_below W (.cells #[.string ⟨#[]⟩] 9)
  have z1 := alloc_size W (.cells #[.string ⟨#[]⟩] 9)
  generalize W.alloc (.cells #[.string ⟨#[]⟩] 9) = w1 at *
  have HV1 := Lib.hid (lt_more (lt_via HV.out b1) (show W.heap.size < w1.heap.size by omega))
  have HZ := Lib.hid hz
  have HB1 := Lib.hid b1
  clear hz b1 z1
  refine (set_step op2_gcd HV1.out HC.out (Reads.var HN.out) (Reads.var HD.out)).mono ?_
  rintro e w2 ⟨⟨v1, rfl, s1⟩, hB⟩
  have S1 := Lib.hid s1
  have HB2 := Lib.hid hB
  have HV2 := Lib.hid (lt_via HV1.out hB)
  obtain ⟨f1, k1, rfl⟩ := s1.form
  clear hB s1
  go_wp2_with fail
  refine (set_step op2_quo HV2.out HN.out (Reads.var HN.out) (Reads.var HC.out)).mono ?_
  rintro e w3 ⟨⟨v2, rfl, s2⟩, hB⟩
  have S2 := Lib.hid s2
  have HB3 := Lib.hid hB
  have HV3 := Lib.hid (lt_via HV2.out hB)
  obtain ⟨f2, k2, rfl⟩ := s2.form
  clear hB s2
  go_wp2_with fail
  refine (set_step op2_quo HV3.out HD.out (Reads.var HD.out) (Reads.var HC.out)).mono ?_
  rintro e w4 ⟨⟨v3, rfl, s3⟩, hB⟩
  have S3 := Lib.hid s3
  have HB4 := Lib.hid hB
  have HV4 := Lib.hid (lt_via HV3.out hB)
  obtain ⟨f3, k3, rfl⟩ := s3.form
  clear hB s3
  go_wp2_with fail
  have HR := Lib.hid (alloc_below w4 (.cells #[.func (.func f1) #[] k1, .func (.func f2) #[] k2, .func (.func f3) #[] k3] 74))
  have r0 := cell_rowN w4 #[.func (.func f1) #[] k1, .func (.func f2) #[] k2, .func (.func f3) #[] k3] 74 0 rfl
  have r1 := cell_rowN w4 #[.func (.func f1) #[] k1, .func (.func f2) #[] k2, .func (.func f3) #[] k3] 74 1 rfl
  have r2 := cell_rowN w4 #[.func (.func f1) #[] k1, .func (.func f2) #[] k2, .func (.func f3) #[] k3] 74 2 rfl
  have hg : w4.heap.size ∉ W.heap.size :: V := fun e => by have := HV4.out _ e; omega
  have HV5 := Lib.hid (lt_via HV4.out HR.out)
  generalize w4.alloc (.cells #[.func (.func f1) #[] k1, .func (.func f2) #[] k2, .func (.func f3) #[] k3] 74) = w5 at *
  have HT := Lib.hid (StepsAt.three (((S1.out.via HB3.out).via HB4.out).via HR.out) ((S2.out.via HB4.out).via HR.out) (S3.out.via HR.out) hg r0 r1 r2)
  refine (chain_step HT.out (by simp) 3 HV5.out).mono ?_
  rintro e w6 ⟨⟨v, rfl, sv⟩, hB⟩
  have SV := Lib.hid sv
  have HB6 := Lib.hid hB
  clear sv hB
  go_wp2_with fail
  go_ret
  exact ⟨⟨_, rfl, SV.out⟩, belowVia HB6.out (belowVia HR.out (belowVia HB4.out (belowVia HB3.out (belowVia HB2.out HB1.out)))), heap_below HB6.out (heap_below HR.out (heap_below HB4.out (heap_below HB3.out (heap_below HB2.out HZ.out))))⟩
theorem info_ratio : (Tryz.prog.info? 23).map (·.size) = some 2 := by kernel_rfl
theorem load_q {w : World} {g : Nat} {x y : Value} {fr : Nat × Nat} (hg : w.heap[g]? = some (.cells #[x, y] 23 fr)) : (loadVar 23 ⟨g, 0, none⟩).run Tryz.prog w = .ok (.agg #[x, y]) w :=
  run_loadVar_row w g _ _ _ _ _ hg Tryz.underlying23 rfl info_ratio
theorem results_q {fn : Func} {p : Tmp} (h : fn.results = #[.cell p 23]) (tmps : Array Value) (w : World) (g : Nat) (x y : Value) {fr : Nat × Nat} (hp : tmps.getD p undef = .pointer (some ⟨g, 0, none⟩)) (hg : w.heap[g]? = some (.cells #[x, y] 23 fr)) :
    (results fn tmps).run Tryz.prog w = .ok (.agg #[x, y]) w :=
  results_cell_row h tmps w g _ _ _ _ hp hg Tryz.underlying23 rfl info_ratio
theorem results_qe {fn : Func} {p u : Tmp} (h : fn.results = #[.cell p 23, .tmp u]) (tmps : Array Value) (w : World) (g : Nat) (x y : Value) {fr : Nat × Nat} (hp : tmps.getD p undef = .pointer (some ⟨g, 0, none⟩)) (hg : w.heap[g]? = some (.cells #[x, y] 23 fr)) :
    (results fn tmps).run Tryz.prog w = .ok (.tuple #[.agg #[x, y], tmps.getD u undef]) w := by
  have hp' : tmps[p]?.getD undef = .pointer (some ⟨g, 0, none⟩) := by simpa using hp
  simp [results, h, hp', asAddr, load_q hg]
/-- What is built: two texts and an error. -/
def doneT (x : (Nat → ByteArray) × Int) (n d : Nat) : ByteArray × ByteArray × Int := if x.2 = 0 then (x.1 n, x.1 d, 0) else (⟨#[]⟩, ⟨#[]⟩, 40)
def builtT (ts : List ((Nat → ByteArray) → (Nat → ByteArray) × Int)) (n d c : Nat) (s : Nat → ByteArray) : (Nat → ByteArray) × Int := seqT [seqT ts, posT n d, lowT n d c] s
def GivesR (x y : ByteArray) (k : Int) (V : List Nat) (w : World) (e : Ending) (w' : World) : Prop := e = .returned (.tuple #[.agg #[.string x, .string y], .int .i64 k]) ∧ KeptV V w w'
theorem VarsAt.more {V : List Nat} {s : Nat → ByteArray} {W : World} {c : Nat} (h : VarsAt V s W) (hc : W.heap[c]? = some (.cells #[.string ⟨#[]⟩] 9 (0, 0))) (hn : c ∉ V) : VarsAt (c :: V) (upd s c ⟨#[]⟩) W := by
  refine ⟨fun p hp => ?_, fun p hp => ?_⟩
  · rcases List.mem_cons.1 hp with rfl | hp
    · rw [upd_same]; exact hc
    · rw [upd_other _ _ (fun e => hn (by rw [← e]; exact hp))]; exact h.cell p hp
  · rcases List.mem_cons.1 hp with rfl | hp
    · rw [upd_same]; exact sized_nil
    · rw [upd_other _ _ (fun e => hn (by rw [← e]; exact hp))]; exact h.sized p hp
set_option maxRecDepth 100000 in
set_option maxHeartbeats 4000000 in
theorem built_any {V : List Nat} {n d : Nat} {a : Option Addr} {L : List (Value × ((Nat → ByteArray) → (Nat → ByteArray) × Int))} (ca : Nat) (s : Nat → ByteArray) (W : World) (hV : ∀ p, p ∈ V → p < W.heap.size) (hnV : n ∈ V) (hdV : d ∈ V) (hvs : VarsAt V s W) (hL : StepsAt V W a L) (hn : (L.length : Int) ≤ 100) :
    Calls Tryz.prog 55 #[.pointer (some ⟨n, 0, none⟩), .pointer (some ⟨d, 0, none⟩), .slice a L.length ca] W fun e W' =>
      ∃ c, c ∉ V ∧ GivesR (doneT (builtT (L.map Prod.snd) n d c (upd s c ⟨#[]⟩)) n d).1 (doneT (builtT (L.map Prod.snd) n d c (upd s c ⟨#[]⟩)) n d).2.1 (doneT (builtT (L.map Prod.snd) n d c (upd s c ⟨#[]⟩)) n d).2.2 V W e W' := by
  have HV := Lib.hid hV
  have HN := Lib.hid hnV
  have HD := Lib.hid hdV
  have HS := Lib.hid hvs
  have HL := Lib.hid hL
  clear hV hnV hdV hvs hL
  go_enter Tryz.func55, Tryz.ntmps55
  go_wp2_with fail
  have hz := heap_alloc_new W (.cells #[.string ⟨#[]⟩, .string ⟨#[]⟩] 23)
  have b1 := alloc_below W (.cells #[.string ⟨#[]⟩, .string ⟨#[]⟩] 23)
  generalize W.alloc (.cells #[.string ⟨#[]⟩, .string ⟨#[]⟩] 23) = w1 at *
  have HZ := Lib.hid hz
  have HB1 := Lib.hid b1
  have HV1 := Lib.hid (lt_via HV.out b1)
  have HL1 : Hid (StepsAt V w1 a L) := ⟨fun q hq => (HL.out.step q hq).via b1, HL.out.cell.imp_right fun ⟨g, e1, e2, e3⟩ => ⟨g, e1, e2, fun j q hq => keptBelow b1 (e3 j q hq)⟩⟩
  clear hz b1
  refine (chain_step HL1.out hn ca HV1.out).mono ?_
  rintro e w2 ⟨⟨v1, rfl, s1⟩, hB⟩
  have S1 := Lib.hid s1
  have HB2 := Lib.hid hB
  have HV2 := Lib.hid (lt_via HV1.out hB)
  obtain ⟨f1, k1, rfl⟩ := s1.form
  clear hB s1
  go_wp2_with fail
  refine (pos_step w2 HV2.out HN.out HD.out).mono ?_
  rintro e w3 ⟨⟨v2, rfl, s2⟩, hB⟩
  have S2 := Lib.hid s2
  have HB3 := Lib.hid hB
  have HV3 := Lib.hid (lt_via HV2.out hB)
  obtain ⟨f2, k2, rfl⟩ := s2.form
  clear hB s2
  go_wp2_with fail
  refine (low_step w3 HV3.out HN.out HD.out).mono ?_
  rintro e w4 ⟨⟨v3, rfl, s3⟩, hB, hcc⟩
  have S3 := Lib.hid s3
  have HB4 := Lib.hid hB
  have hcn : w3.heap.size ∉ V := fun e => by have := HV3.out _ e; omega
  have HCN := Lib.hid hcn
  have HV4 : Hid (∀ p, p ∈ w3.heap.size :: V → p < w4.heap.size) := lt_more (lt_via HV3.out hB) (Array.getElem?_eq_some_iff.1 hcc).1
  have HVA : Hid (VarsAt (w3.heap.size :: V) (upd s w3.heap.size ⟨#[]⟩) w4) := VarsAt.more ((((HS.out.via HB1.out).via HB2.out).via HB3.out).via hB) hcc hcn
  have hlt1 : W.heap.size < w3.heap.size := by
    have h1 := (Array.getElem?_eq_some_iff.1 HZ.out).1; have := HB2.out.size; have := HB3.out.size; omega
  have HR1 : Hid (Step (w3.heap.size :: V) w4 (.func (.func f1) #[] k1) (seqT (L.map Prod.snd))) := S1.out.more (belowVia hB HB3.out) HB3.out.size hcn
  have HR2 : Hid (Step (w3.heap.size :: V) w4 (.func (.func f2) #[] k2) (posT n d)) := S2.out.more hB (Nat.le_refl _) hcn
  obtain ⟨f3, k3, rfl⟩ := s3.form
  have HB14 : Hid (Below W.heap.size W w4) := belowVia hB (belowVia HB3.out (belowVia HB2.out HB1.out))
  have HZ4 : Hid (w4.heap[W.heap.size]? = some (.cells #[.string ⟨#[]⟩, .string ⟨#[]⟩] 23 (0, 0))) := heap_below hB (heap_below HB3.out (heap_below HB2.out HZ.out))
  have HLT : Hid (W.heap.size ≤ w3.heap.size) := Nat.le_of_lt hlt1
  clear hB s3 hcc hcn HB4 HB3 HB2 HB1 HZ S1 S2
  have HRN := Lib.hid (fun e : W.heap.size ∈ w3.heap.size :: V => by
    rcases List.mem_cons.1 e with e | e
    · omega
    · exact Nat.lt_irrefl _ (HV.out _ e) : W.heap.size ∉ w3.heap.size :: V)
  clear hlt1
  generalize w3.heap.size = c at *
  go_wp2_with fail
  have HR := Lib.hid (alloc_below w4 (.cells #[.func (.func f1) #[] k1, .func (.func f2) #[] k2, .func (.func f3) #[] k3] 74))
  have r0 := cell_rowN w4 #[.func (.func f1) #[] k1, .func (.func f2) #[] k2, .func (.func f3) #[] k3] 74 0 rfl
  have r1 := cell_rowN w4 #[.func (.func f1) #[] k1, .func (.func f2) #[] k2, .func (.func f3) #[] k3] 74 1 rfl
  have r2 := cell_rowN w4 #[.func (.func f1) #[] k1, .func (.func f2) #[] k2, .func (.func f3) #[] k3] 74 2 rfl
  have hg : w4.heap.size ∉ c :: V := fun e => by have := HV4.out _ e; omega
  have HV5 := Lib.hid (lt_via HV4.out HR.out)
  generalize w4.alloc (.cells #[.func (.func f1) #[] k1, .func (.func f2) #[] k2, .func (.func f3) #[] k3] 74) = w5 at *
  have HT := Lib.hid (StepsAt.three (HR1.out.via HR.out) (HR2.out.via HR.out) (S3.out.via HR.out) hg r0 r1 r2)
  clear r0 r1 r2 hg
  refine (chain_step HT.out (by simp) 3 HV5.out).mono ?_
  rintro e w6 ⟨⟨v, rfl, sv⟩, hB⟩
  have SV := Lib.hid sv
  have HB6 := Lib.hid hB
  obtain ⟨hl, f, k, rfl, ef, hrun⟩ := sv
  have HRUN := Lib.hid (hrun (upd s c ⟨#[]⟩) w6 (KeptV.refl _ _) ((HVA.out.via HR.out).via hB))
  clear hB hl hrun
  have HBIG : Hid (builtT (L.map Prod.snd) n d c (upd s c ⟨#[]⟩) = seqT [seqT (L.map Prod.snd), posT n d, lowT n d c] (upd s c ⟨#[]⟩)) := rfl
  obtain ⟨x, hx⟩ : ∃ x, x = builtT (L.map Prod.snd) n d c (upd s c ⟨#[]⟩) := ⟨_, rfl⟩
  have HX := Lib.hid hx
  have hrun2 : Hid (Calls Tryz.prog f k w6 fun e W' => e = .returned (.int .i64 x.2) ∧ KeptV (c :: V) w6 W' ∧ VarsAt (c :: V) x.1 W') := by
    rw [hx]; exact HRUN
  clear hx HRUN
  go_wp2_with fail
  refine hrun2.out.mono ?_
  rintro e w7 ⟨rfl, hk7, hv7⟩
  have HK7 := Lib.hid hk7
  have hr7 : w7.heap[W.heap.size]? = some (.cells #[.string ⟨#[]⟩, .string ⟨#[]⟩] 23 (0, 0)) :=
    hk7.heap (heap_below HB6.out (heap_below HR.out HZ4.out)) HRN.out
  obtain ⟨q1, f1'⟩ := cell2 hr7
  obtain ⟨q2, f2'⟩ := cell2b hr7
  have c1 := (cell_one (hv7.cell n (List.mem_cons_of_mem _ HN.out))).1
  have c2 := (cell_one (hv7.cell d (List.mem_cons_of_mem _ HD.out))).1
  have HR7 := Lib.hid hr7
  have HKW : Hid (KeptV V W w7) := ((KeptV.of_below (belowVia HB6.out (belowVia HR.out HB14.out))).trans hk7).drop HLT.out
  have HRW : Hid (∀ y1 y2, KeptV V W ((w7.setCell ⟨W.heap.size, 0, none⟩ y1).setCell ⟨W.heap.size, 1, none⟩ y2)) := fun y1 y2 =>
    KeptV.drop (((HKW.out.mono (fun p hp => List.mem_cons_of_mem W.heap.size hp)).set (List.mem_cons_self ..) y1).set (List.mem_cons_self ..) y2) (Nat.le_refl _)
  have HRS : Hid (∀ y1 y2, ((w7.setCell ⟨W.heap.size, 0, none⟩ y1).setCell ⟨W.heap.size, 1, none⟩ y2).heap[W.heap.size]? = some (.cells #[y1, y2] 23 (0, 0))) := fun y1 y2 =>
    heap_setCell_same _ _ 1 _ _ y2 (heap_setCell_same w7 _ 0 _ _ y1 HR7.out)
  clear hk7 hv7 hr7
  by_cases he : x.2 = 0
  · have HRES : Hid (doneT (builtT (L.map Prod.snd) n d c (upd s c ⟨#[]⟩)) n d = (x.1 n, x.1 d, 0)) := by
      show _ = _; rw [← HX.out]; unfold doneT; rw [if_pos he]
    have HE := Lib.hid he
    have he2 : (x.2 != 0) = false := by simp [he]
    generalize x.2 = er at *
    generalize x.1 n = t1 at *
    generalize x.1 d = t2 at *
    clear he HK7 HX
    go_wp2_with fail
    go_region
    go_wp2_with fail
    refine bodyPost_ret (results_qe rfl _ _ W.heap.size _ _ rfl (HRS.out _ _)) rfl ?_
    refine ⟨c, HCN.out, ?_⟩
    rw [HRES.out]
    exact ⟨rfl, (HRW.out _ _).drew 1⟩
  · have he2 : (x.2 != 0) = true := by simp [he]
    have HRES : Hid (doneT (builtT (L.map Prod.snd) n d c (upd s c ⟨#[]⟩)) n d = (⟨#[]⟩, ⟨#[]⟩, 40)) := by
      show _ = _; rw [← HX.out]; unfold doneT; rw [if_neg he]
    generalize x.2 = er at *
    clear he HK7 HX c1 c2
    go_wp2_with fail
    refine bodyPost_ret (results_qe rfl _ _ W.heap.size _ _ rfl (HRS.out _ _)) rfl ?_
    refine ⟨c, HCN.out, ?_⟩
    rw [HRES.out]
    exact ⟨rfl, HRW.out _ _⟩
end Go.Proofs.YtippeffbdjjcfaaGreatDoor
/- RatFin: What is built, in terms of fractions. -/
namespace Go.Proofs.YtippeffbdjjcfaaGreatDoor
open Go.RowKit Putlog

def resT (o : Option Rat) : ByteArray × ByteArray × Int := (numB o, denB o, errQ o)
theorem seq_nil (s : Nat → ByteArray) : seqT [] s = (s, 0) := rfl
theorem run_stop (ts : List ((Nat → ByteArray) → (Nat → ByteArray) × Int)) (x : (Nat → ByteArray) × Int) (h : x.2 ≠ 0) : runT ts x = x := by
  unfold runT
  induction ts with
  | nil => rfl
  | cons t ts ih => rw [List.foldl_cons, if_neg h]; exact ih
theorem run_go (t : (Nat → ByteArray) → (Nat → ByteArray) × Int) (ts : List ((Nat → ByteArray) → (Nat → ByteArray) × Int)) (x : (Nat → ByteArray) × Int) (h : x.2 = 0) : runT (t :: ts) x = runT ts (t x.1) := by
  unfold runT; rw [List.foldl_cons, if_pos h]
theorem seq_cons (t : (Nat → ByteArray) → (Nat → ByteArray) × Int) (ts : List ((Nat → ByteArray) → (Nat → ByteArray) × Int)) (s : Nat → ByteArray) : seqT (t :: ts) s = runT ts (t s) := run_go t ts _ rfl
theorem f0 : Fits 0 := by decide
theorem is_zero (b : Int) : intB b = ⟨#[48]⟩ ↔ b = 0 := by rw [← intB_zero]; exact ⟨fun e => intB_inj e, fun e => by rw [e]⟩
theorem readI_zero : readI ⟨#[48]⟩ = some 0 := by rw [← intB_zero]; exact readI_int f0
theorem readI_one : readI ⟨#[49]⟩ = some 1 := by rw [← intB_one]; exact readI_int (by decide)
theorem quoF_pos {a g : Int} (h : g ≠ 0) : quoF a g = (intB (a / g), 0) := if_neg h
theorem set_eq {r : Nat} {F : ByteArray → ByteArray → ByteArray × Int} {fa fb : (Nat → ByteArray) → ByteArray} {s : Nat → ByteArray} {x y z : ByteArray} {k : Int} (hx : fa s = x) (hy : fb s = y) (hF : F x y = (z, k)) : setT r F fa fb s = (upd s r z, k) := by
  unfold setT; rw [hx, hy, hF]
theorem low_ok {n d c : Nat} (hnd : n ≠ d) (hcn : c ≠ n) (hcd : c ≠ d) {s : Nat → ByteArray} {a b : Int} (ha : Fits a) (hb : Fits b) (h0 : 0 < b) (en : s n = intB a) (ed : s d = intB b) :
    doneT (lowT n d c s) n d = resT (some (Rat.divInt a b)) := by
  have hg : (Int.gcd a b : Int) ≠ 0 := by have := gcd_posI (n := a) (d := b) (by omega); omega
  have fg := gcd_fits ha hb
  unfold lowT
  rw [seq_cons]
  have e1 : setT c (op2 gcdF) (fun s => s n) (fun s => s d) s = (upd s c (intB (Int.gcd a b : Nat)), 0) :=
    set_eq en ed (op2_ints ha hb)
  rw [e1, run_go _ _ _ rfl]
  have e2 : setT n (op2 quoF) (fun s => s n) (fun s => s c) (upd s c (intB (Int.gcd a b : Nat))) = (upd (upd s c (intB (Int.gcd a b : Nat))) n (intB (a / (Int.gcd a b : Nat))), 0) :=
    set_eq ((upd_other _ _ hcn.symm).trans en) (upd_same ..) ((op2_ints ha fg).trans (quoF_pos hg))
  rw [e2, run_go _ _ _ rfl]
  have e3 : setT d (op2 quoF) (fun s => s d) (fun s => s c) (upd (upd s c (intB (Int.gcd a b : Nat))) n (intB (a / (Int.gcd a b : Nat)))) = (upd (upd (upd s c (intB (Int.gcd a b : Nat))) n (intB (a / (Int.gcd a b : Nat)))) d (intB (b / (Int.gcd a b : Nat))), 0) :=
    set_eq ((upd_other _ _ hnd.symm).trans ((upd_other _ _ hcd.symm).trans ed)) ((upd_other _ _ hcn).trans (upd_same ..)) ((op2_ints hb fg).trans (quoF_pos hg))
  rw [e3]
  show doneT (_, 0) n d = _
  unfold doneT
  rw [if_pos rfl]
  obtain ⟨p1, p2⟩ := red_parts (n := a) h0
  show (upd _ d _ n, upd _ d _ d, (0 : Int)) = (intB (Rat.divInt a b).num, intB (Rat.divInt a b).den, 0)
  rw [upd_same, upd_other _ _ hnd, upd_same, p1, p2]
theorem low_no {n d c : Nat} {s : Nat → ByteArray} (h : readI (s n) = none ∨ readI (s d) = none) : doneT (lowT n d c s) n d = resT none := by
  unfold lowT
  rw [seq_cons]
  have e1 : (setT c (op2 gcdF) (fun s => s n) (fun s => s d) s).2 = 30 := by
    rw [set_eq rfl rfl (op2_no h)]
  rw [run_stop _ _ (by rw [e1]; decide)]
  unfold doneT
  rw [e1, if_neg (by decide)]; rfl
theorem done_err {x : (Nat → ByteArray) × Int} (n d : Nat) (h : x.2 ≠ 0) : doneT x n d = resT none := by unfold doneT; rw [if_neg h]; rfl
theorem subF_neg {a : Int} (h : Fits a) : subF 0 a = (intB (0 - a), 0) := by unfold subF; rw [okS_fits (fits_neg h), okE_fits (fits_neg h)]
theorem fin_eq {n d c : Nat} (hnd : n ≠ d) (hcn : c ≠ n) (hcd : c ≠ d) (s : Nat → ByteArray) : doneT (runT [lowT n d c] (posT n d s)) n d = resT (makeQ (readI (s n)) (readI (s d))) := by
  rcases readI_cases (s d) with ⟨b, eb, fb, rb⟩ | ⟨_, rb⟩
  · rw [rb]
    by_cases h0 : b = 0
    · subst h0
      have e : posT n d s = (s, 40) := by unfold posT; rw [if_pos ((is_zero 0).2 rfl ▸ eb)]
      rw [e, run_stop _ _ (show (40 : Int) ≠ 0 by decide), done_err _ _ (show (40 : Int) ≠ 0 by decide), makeQ_zero]
    · have hz : s d ≠ ⟨#[48]⟩ := fun e => h0 ((is_zero b).1 (eb ▸ e))
      have hc : cmpS (s d) ⟨#[48]⟩ = cmpI b 0 := by rw [eb, ← intB_zero, cmpS_ints fb f0]
      by_cases hneg : b < 0
      · have hc2 : cmpI b 0 = -1 := by unfold cmpI; exact if_pos hneg
        have e : posT n d s = negT n d s := by unfold posT; rw [if_neg hz, if_pos (by rw [hc, hc2]; decide)]
        rw [e]
        unfold negT
        rw [seq_cons]
        rcases readI_cases (s n) with ⟨a, ea, fa, ra⟩ | ⟨_, ra⟩
        · rw [ra]
          have e1 : setT n (op2 subF) (fun _ => ⟨#[48]⟩) (fun s => s n) s = (upd s n (intB (0 - a)), 0) :=
            set_eq intB_zero.symm ea ((op2_ints f0 fa).trans (subF_neg fa))
          rw [e1, run_go (setT d _ _ _) [] _ rfl]
          have e2 : setT d (op2 subF) (fun _ => ⟨#[48]⟩) (fun s => s d) (upd s n (intB (0 - a))) = (upd (upd s n (intB (0 - a))) d (intB (0 - b)), 0) :=
            set_eq intB_zero.symm ((upd_other _ _ hnd.symm).trans eb) ((op2_ints f0 fb).trans (subF_neg fb))
          rw [e2]
          show doneT (runT [lowT n d c] (_, 0)) n d = _
          rw [run_go _ _ _ rfl]
          show doneT (lowT n d c _) n d = _
          rw [low_ok hnd hcn hcd (a := 0 - a) (b := 0 - b) (fits_neg fa) (fits_neg fb) (by omega) (by rw [upd_other _ _ hnd, upd_same]) (upd_same ..), divInt_neg_neg, makeQ_ok h0]
        · rw [ra, makeQ_no1]
          have e1 : (setT n (op2 subF) (fun _ => ⟨#[48]⟩) (fun s => s n) s).2 = 30 := by rw [set_eq rfl rfl (op2_no (.inr ra))]
          rw [run_stop [setT d _ _ _] _ (by rw [e1]; decide), run_stop _ _ (by rw [e1]; decide)]
          exact done_err _ _ (by rw [e1]; decide)
      · have hc2 : ¬ cmpI b 0 < 0 := by have := cmpI_pos.2 (show 0 < b by omega); omega
        have e : posT n d s = (s, 0) := by unfold posT; rw [if_neg hz, if_neg (by rw [hc]; exact hc2)]
        rw [e, run_go _ _ _ rfl]
        show doneT (lowT n d c s) n d = _
        rcases readI_cases (s n) with ⟨a, ea, fa, ra⟩ | ⟨_, ra⟩
        · rw [ra, low_ok hnd hcn hcd fa fb (by omega) ea eb, makeQ_ok h0]
        · rw [ra, makeQ_no1]; exact low_no (.inl ra)
  · rw [rb, makeQ_no2]
    have hz : s d ≠ ⟨#[48]⟩ := fun e => by rw [e, readI_zero] at rb; cases rb
    have e : posT n d s = (s, 0) := by unfold posT; rw [if_neg hz, if_neg (by rw [cmpS_no (.inl rb)]; decide)]
    rw [e, run_go _ _ _ rfl]
    exact low_no (.inr rb)
/-- What is built of steps that end so. -/
theorem built_ok {ts : List ((Nat → ByteArray) → (Nat → ByteArray) × Int)} {n d c : Nat} {s s1 : Nat → ByteArray} (hnd : n ≠ d) (hcn : c ≠ n) (hcd : c ≠ d) (h : seqT ts s = (s1, 0)) :
    doneT (builtT ts n d c s) n d = resT (makeQ (readI (s1 n)) (readI (s1 d))) := by
  unfold builtT
  rw [seq_cons, h, run_go _ _ _ rfl]
  exact fin_eq hnd hcn hcd s1
theorem built_err {ts : List ((Nat → ByteArray) → (Nat → ByteArray) × Int)} {n d c : Nat} {s : Nat → ByteArray} (h : (seqT ts s).2 ≠ 0) :
    doneT (builtT ts n d c s) n d = resT none := by
  unfold builtT
  rw [seq_cons, run_stop _ _ h]
  exact done_err _ _ h
end Go.Proofs.YtippeffbdjjcfaaGreatDoor
