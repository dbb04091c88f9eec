/- The contract of the division of numbers with a sign. -/
import Derived.Test.YtggkbeppfpgkaaaGreatDoorIntNum3
namespace Go.Proofs.YtggkbeppfpgkaaaGreatDoor
open Go.RowKit Putlog

theorem sgn_mul_y (s : Bool) (Q : Nat) (y : Int) : sgn s Q * y = sgn (s != decide (y < 0)) (Q * y.natAbs) := by
  rcases (show y < 0 ∨ 0 ≤ y by omega) with h | h
  · have e : y = -(y.natAbs : Int) := by omega
    have e2 : decide (y < 0) = true := by simp [h]
    rw [e2]
    generalize y.natAbs = Y at e
    subst e
    cases s <;> simp [sgn, Int.neg_mul, Int.mul_neg]
  · have e : y = (y.natAbs : Int) := by omega
    have e2 : decide (y < 0) = false := by simp; omega
    rw [e2]
    generalize y.natAbs = Y at e
    subst e
    cases s <;> simp [sgn, Int.neg_mul]
theorem nd_pure {x y : Int} (hy : y ≠ 0) {Q R : Nat} (hR : R < y.natAbs) (h1 : x < 0 → x.natAbs + R = Q * y.natAbs) (h2 : ¬ x < 0 → x.natAbs = Q * y.natAbs + R) :
    sgn (decide (x < 0) != decide (y < 0)) Q = x / y ∧ (R : Int) = x % y := by
  refine ediv_unique hy ?_ (by omega) (by omega)
  rw [sgn_mul_y]
  have e : ((decide (x < 0) != decide (y < 0)) != decide (y < 0)) = decide (x < 0) := by cases decide (x < 0) <;> cases decide (y < 0) <;> rfl
  rw [e]
  unfold sgn
  by_cases h : x < 0
  · have := h1 h; simp only [h, decide_true, if_true]; omega
  · have := h2 h; simp only [h, decide_false, Bool.false_eq_true, if_false]; omega
/-- Two numbers in boxes, and the boxes of two results. -/
structure Box4 (w W : World) (x1 x2 y1 y2 : Value) : Prop where
  a1 : W.cell? ⟨w.heap.size, 0, none⟩ = some x1
  a2 : W.cell? ⟨w.heap.size, 1, none⟩ = some x2
  b1 : W.cell? ⟨w.heap.size + 1, 0, none⟩ = some y1
  b2 : W.cell? ⟨w.heap.size + 1, 1, none⟩ = some y2
  r : W.heap[w.heap.size + 1 + 1]? = some (.cells #[.bool false, .slice none 0 0] 47 (0, 0))
  s : W.heap[w.heap.size + 1 + 1 + 1]? = some (.cells #[.bool false, .slice none 0 0] 47 (0, 0))
  bel : Below w.heap.size w W
theorem box4_made (w : World) (x1 x2 y1 y2 : Value) : Box4 w ((((w.alloc (.cells #[x1, x2] 47)).alloc (.cells #[y1, y2] 47)).alloc (.cells #[.bool false, .slice none 0 0] 47)).alloc (.cells #[.bool false, .slice none 0 0] 47)) x1 x2 y1 y2 := by
  have h := box3_made w x1 x2 y1 y2
  have hs : (((w.alloc (.cells #[x1, x2] 47)).alloc (.cells #[y1, y2] 47)).alloc (.cells #[.bool false, .slice none 0 0] 47)).heap.size = w.heap.size + 1 + 1 + 1 := by simp
  generalize ((w.alloc (.cells #[x1, x2] 47)).alloc (.cells #[y1, y2] 47)).alloc (.cells #[.bool false, .slice none 0 0] 47) = W at *
  have hb := alloc_below W (.cells #[.bool false, .slice none 0 0] 47)
  have hn := heap_alloc_new W (.cells #[.bool false, .slice none 0 0] 47)
  rw [hs] at hn
  have h := h.via hb
  exact ⟨h.a1, h.a2, h.b1, h.b2, h.r, hn, h.bel⟩
theorem Box4.via {w W W' : World} {x1 x2 y1 y2 : Value} (hB : Below W.heap.size W W') (h : Box4 w W x1 x2 y1 y2) : Box4 w W' x1 x2 y1 y2 :=
  ⟨keptBelow hB h.a1, keptBelow hB h.a2, keptBelow hB h.b1, keptBelow hB h.b2, heap_below hB h.r, heap_below hB h.s, belowVia hB h.bel⟩
def Fin4 (W : World) (p q : Nat) (r1 r2 s1 s2 : Value) : World := ((((W.setCell ⟨p, 0, none⟩ r1).setCell ⟨p, 1, none⟩ r2).setCell ⟨q, 0, none⟩ s1).setCell ⟨q, 1, none⟩ s2)
theorem Box4.res {w W : World} {x1 x2 y1 y2 r1 r2 s1 s2 : Value} (h : Box4 w W x1 x2 y1 y2) :
    (Fin4 W (w.heap.size + 1 + 1) (w.heap.size + 1 + 1 + 1) r1 r2 s1 s2).heap[w.heap.size + 1 + 1]? = some (.cells #[r1, r2] 47 (0, 0)) ∧
    (Fin4 W (w.heap.size + 1 + 1) (w.heap.size + 1 + 1 + 1) r1 r2 s1 s2).heap[w.heap.size + 1 + 1 + 1]? = some (.cells #[s1, s2] 47 (0, 0)) := by
  have h1 := heap_setCell_same W _ 0 _ _ r1 h.r
  have h2 := heap_setCell_same _ _ 1 _ _ r2 h1
  constructor
  · unfold Fin4
    rw [heap_setCell_other _ _ _ _ (show w.heap.size + 1 + 1 ≠ w.heap.size + 1 + 1 + 1 by omega), heap_setCell_other _ _ _ _ (show w.heap.size + 1 + 1 ≠ w.heap.size + 1 + 1 + 1 by omega)]
    exact h2
  · have h3 : ((W.setCell ⟨w.heap.size + 1 + 1, 0, none⟩ r1).setCell ⟨w.heap.size + 1 + 1, 1, none⟩ r2).heap[w.heap.size + 1 + 1 + 1]? = some (.cells #[.bool false, .slice none 0 0] 47 (0, 0)) := by
      rw [heap_setCell_other _ _ _ _ (show w.heap.size + 1 + 1 + 1 ≠ w.heap.size + 1 + 1 by omega), heap_setCell_other _ _ _ _ (show w.heap.size + 1 + 1 + 1 ≠ w.heap.size + 1 + 1 by omega)]
      exact h.s
    have h4 := heap_setCell_same _ _ 0 _ _ s1 h3
    exact heap_setCell_same _ _ 1 _ _ s2 h4
theorem Box4.cells {w W : World} {x1 x2 y1 y2 r1 r2 s1 s2 : Value} {a : Option Addr} {l : List Int} (h : Box4 w W x1 x2 y1 y2) (hc : CellsAt W a l) : CellsAt (Fin4 W (w.heap.size + 1 + 1) (w.heap.size + 1 + 1 + 1) r1 r2 s1 s2) a l := by
  have h1 := cells_res (v := r1) (v2 := r2) hc h.r
  have h3 : ((W.setCell ⟨w.heap.size + 1 + 1, 0, none⟩ r1).setCell ⟨w.heap.size + 1 + 1, 1, none⟩ r2).heap[w.heap.size + 1 + 1 + 1]? = some (.cells #[.bool false, .slice none 0 0] 47 (0, 0)) := by
    rw [heap_setCell_other _ _ _ _ (show w.heap.size + 1 + 1 + 1 ≠ w.heap.size + 1 + 1 by omega), heap_setCell_other _ _ _ _ (show w.heap.size + 1 + 1 + 1 ≠ w.heap.size + 1 + 1 by omega)]
    exact h.s
  exact cells_res h1 h3
theorem Box4.fin {w W : World} {x1 x2 y1 y2 r1 r2 s1 s2 : Value} (h : Box4 w W x1 x2 y1 y2) : Below w.heap.size w (Fin4 W (w.heap.size + 1 + 1) (w.heap.size + 1 + 1 + 1) r1 r2 s1 s2) := below_res (below_res h.bel (by omega) _ _) (by omega) _ _
set_option maxRecDepth 100000 in
set_option maxHeartbeats 4000000 in
theorem ndiv0 (x y : Int) (hx : x.natAbs < 10000 ^ 120) (hy : y.natAbs < 10000 ^ 120) (h0 : y ≠ 0) (hc : ¬ (x < 0 ∧ 0 < x.natAbs % y.natAbs)) (u v : Value) (w : World) (hu : NumAt w u x) (hv : NumAt w v y)  :
    Calls Tryz.prog 38 #[u, v] w fun e w' => (∃ q r, e = .returned (.tuple #[q, r]) ∧ NumAt w' q (x / y) ∧ NumAt w' r (x % y)) ∧ Below w.heap.size w w' := by
  obtain ⟨a, ca, rfl, hra, hca⟩ := hu
  obtain ⟨b, cb, rfl, hrb, hcb⟩ := hv
  have hYp : 0 < y.natAbs := by omega
  have hmod := Nat.mod_lt x.natAbs hYp
  have hdm := Nat.div_add_mod x.natAbs y.natAbs
  have hdm2 : x.natAbs / y.natAbs * y.natAbs = y.natAbs * (x.natAbs / y.natAbs) := Nat.mul_comm _ _
  have hz0 : x < 0 → x.natAbs % y.natAbs = 0 := fun h => Nat.eq_zero_of_not_pos fun k => hc ⟨h, k⟩
  obtain ⟨e1, e2⟩ := nd_pure (x := x) h0 hmod (Q := x.natAbs / y.natAbs) (fun h => by have := hz0 h; omega) (fun h => by omega)
  have HD := Lib.hid (fun W hm => mdiv x.natAbs y.natAbs (up250 hx) (up250 hy) hYp _ _ W (MagAt.via hm (mag_of_num hra hca)) (MagAt.via hm (mag_of_num hrb hcb)))
  have HS1 := Lib.hid (fun sv W hm => signed_any (decide (x < 0) != decide (y < 0)) (x.natAbs / y.natAbs) sv W (Nat.lt_of_le_of_lt (Nat.div_le_self _ _) (up250 hx)) hm)
  have HS2 := Lib.hid (fun sv W hm => signed_any false (x.natAbs % y.natAbs) sv W (Nat.lt_of_le_of_lt (Nat.mod_le _ _) (up250 hx)) hm)
  have e3 : sgn false (x.natAbs % y.natAbs) = x % y := by rw [← e2]; rfl
  rw [e1] at HS1
  rw [e3] at HS2
  have hcond : decide (x < 0) = false ∨ (digsL 10000 (x.natAbs % y.natAbs)).length = 0 := by
    by_cases h : x < 0
    · right
      rw [hz0 h, digsL_zero]; rfl
    · left; simp; omega
  have hlen : ((digsL 10000 (x.natAbs % y.natAbs)).length : Int) ≤ 250 := by have := big_len (Nat.lt_of_le_of_lt (Nat.mod_le x.natAbs y.natAbs) (up250 hx)); omega
  generalize (digsL 10000 x.natAbs).length = n at *
  generalize (digsL 10000 y.natAbs).length = m at *
  generalize digsL 10000 (x.natAbs / y.natAbs) = QL at *
  generalize digsL 10000 (x.natAbs % y.natAbs) = RL at *
  generalize x / y = qz at *
  generalize x % y = rz at *
  generalize decide (x < 0) = sx at *
  generalize decide (y < 0) = sy at *
  clear hz0 hx hy h0 hc hYp hmod hdm hdm2 e1 e2 e3
  by_cases hsx : sx = false
  · subst hsx
    rw [Bool.false_bne] at HS1
    clear hcond
    go_enter Tryz.func38, Tryz.ntmps38
    go_wp2_with fail
    have hbx := box4_made w (.bool false) (.slice a n ca) (.bool sy) (.slice b m cb)
    generalize World.alloc (World.alloc _ _) _ = W at hbx ⊢
    refine (HD.out W hbx.bel).mono ?_
    rintro e w1 ⟨⟨q, r, rfl, hq, hr⟩, hB1⟩
    obtain ⟨aq, cq, rfl, hrq, hcq⟩ := hq
    obtain ⟨ar, cr, rfl, hrr, hcr⟩ := hr
    have hbx := hbx.via hB1
    have ha1 := hbx.a1
    have ha2 := hbx.a2
    have hb1 := hbx.b1
    have hb2 := hbx.b2
    have HBX := Lib.hid hbx
    clear hbx hB1
    go_wp2_with fail
    refine (HS1.out _ _ ⟨aq, cq, rfl, hrq, hcq⟩).mono ?_
    rintro e w3 ⟨⟨v1, rfl, hn1⟩, hB3⟩
    obtain ⟨a8, c8, rfl, hr8, hc8⟩ := hn1
    go_wp2_with fail
    refine (HS2.out _ _ ⟨ar, cr, rfl, hrr, hcr.via hB3⟩).mono ?_
    rintro e w4 ⟨⟨v2, rfl, hn2⟩, hB4⟩
    obtain ⟨a9, c9, rfl, hr9, hc9⟩ := hn2
    have hbx4 := (HBX.out.via hB3).via hB4
    have HC8 := Lib.hid (hc8.via hB4)
    have HC9 := Lib.hid hc9
    have hq1 := (cell_of_row w4 _ 0 _ _ _ hbx4.r).trans rfl
    have hq2 := (cell_of_row w4 _ 1 _ _ _ hbx4.r).trans rfl
    have hf1 := frozen_of_row w4 _ 0 _ _ hbx4.r
    have hf2 := frozen_of_row w4 _ 1 _ _ hbx4.r
    have hq3 := (cell_of_row w4 _ 0 _ _ _ hbx4.s).trans rfl
    have hq4 := (cell_of_row w4 _ 1 _ _ _ hbx4.s).trans rfl
    have hf3 := frozen_of_row w4 _ 0 _ _ hbx4.s
    have hf4 := frozen_of_row w4 _ 1 _ _ hbx4.s
    have HBX4 := Lib.hid hbx4
    clear ha1 ha2 hb1 hb2 HBX hB3 hB4 hc8 hc9 hbx4
    go_wp2_with fail
    refine bodyPost_ret (results_nn rfl _ _ (w.heap.size + 1 + 1) (w.heap.size + 1 + 1 + 1) _ _ _ _ rfl HBX4.out.res.1 rfl HBX4.out.res.2) rfl ?_
    exact ⟨⟨_, _, rfl, ⟨a8, c8, rfl, hr8, HBX4.out.cells HC8.out⟩, ⟨a9, c9, rfl, hr9, HBX4.out.cells HC9.out⟩⟩, HBX4.out.fin⟩
  · obtain rfl : sx = true := by simpa using hsx
    rw [Bool.true_bne] at HS1
    obtain rfl : RL = [] := List.length_eq_zero_iff.1 (hcond.resolve_left hsx)
    clear hcond hlen
    go_enter Tryz.func38, Tryz.ntmps38
    go_wp2_with fail
    have hbx := box4_made w (.bool true) (.slice a n ca) (.bool sy) (.slice b m cb)
    generalize World.alloc (World.alloc _ _) _ = W at hbx ⊢
    refine (HD.out W hbx.bel).mono ?_
    rintro e w1 ⟨⟨q, r, rfl, hq, hr⟩, hB1⟩
    obtain ⟨aq, cq, rfl, hrq, hcq⟩ := hq
    obtain ⟨ar, cr, rfl, hrr, hcr⟩ := hr
    have hbx := hbx.via hB1
    have ha1 := hbx.a1
    have ha2 := hbx.a2
    have hb1 := hbx.b1
    have hb2 := hbx.b2
    have HBX := Lib.hid hbx
    clear hbx hB1
    go_wp2_with fail
    refine (HS1.out _ _ ⟨aq, cq, rfl, hrq, hcq⟩).mono ?_
    rintro e w3 ⟨⟨v1, rfl, hn1⟩, hB3⟩
    obtain ⟨a8, c8, rfl, hr8, hc8⟩ := hn1
    go_wp2_with fail
    refine (HS2.out _ _ ⟨ar, cr, rfl, hrr, hcr.via hB3⟩).mono ?_
    rintro e w4 ⟨⟨v2, rfl, hn2⟩, hB4⟩
    obtain ⟨a9, c9, rfl, hr9, hc9⟩ := hn2
    have hbx4 := (HBX.out.via hB3).via hB4
    have HC8 := Lib.hid (hc8.via hB4)
    have HC9 := Lib.hid hc9
    have hq1 := (cell_of_row w4 _ 0 _ _ _ hbx4.r).trans rfl
    have hq2 := (cell_of_row w4 _ 1 _ _ _ hbx4.r).trans rfl
    have hf1 := frozen_of_row w4 _ 0 _ _ hbx4.r
    have hf2 := frozen_of_row w4 _ 1 _ _ hbx4.r
    have hq3 := (cell_of_row w4 _ 0 _ _ _ hbx4.s).trans rfl
    have hq4 := (cell_of_row w4 _ 1 _ _ _ hbx4.s).trans rfl
    have hf3 := frozen_of_row w4 _ 0 _ _ hbx4.s
    have hf4 := frozen_of_row w4 _ 1 _ _ hbx4.s
    have HBX4 := Lib.hid hbx4
    clear ha1 ha2 hb1 hb2 HBX hB3 hB4 hc8 hc9 hbx4
    go_wp2_with fail
    refine bodyPost_ret (results_nn rfl _ _ (w.heap.size + 1 + 1) (w.heap.size + 1 + 1 + 1) _ _ _ _ rfl HBX4.out.res.1 rfl HBX4.out.res.2) rfl ?_
    exact ⟨⟨_, _, rfl, ⟨a8, c8, rfl, hr8, HBX4.out.cells HC8.out⟩, ⟨a9, c9, rfl, hr9, HBX4.out.cells HC9.out⟩⟩, HBX4.out.fin⟩
theorem digsL_one : digsL 10000 1 = [1] := by rw [digsL_pos (by decide) (by decide), show 1 / 10000 = 0 from rfl, digsL_zero]
theorem one_at (W : World) : MagAt (W.alloc (.cells #[.int .i64 1] 3)) (.slice (some ⟨W.heap.size, 0, none⟩) 1 1) (digsL 10000 1) := by
  rw [digsL_one]
  refine ⟨_, 1, rfl, ⟨Nat.le_refl _, by omega⟩, .inr ⟨W.heap.size, 0, rfl, fun j hj => ?_⟩⟩
  have : j = 0 := by simp [ofN] at hj; exact hj
  subst this
  exact cell_box W (.int .i64 1) _
set_option maxRecDepth 100000 in
set_option maxHeartbeats 4000000 in
theorem ndiv1 (x y : Int) (hx : x.natAbs < 10000 ^ 120) (hy : y.natAbs < 10000 ^ 120) (h0 : y ≠ 0) (hc : x < 0 ∧ 0 < x.natAbs % y.natAbs) (u v : Value) (w : World) (hu : NumAt w u x) (hv : NumAt w v y)  :
    Calls Tryz.prog 38 #[u, v] w fun e w' => (∃ q r, e = .returned (.tuple #[q, r]) ∧ NumAt w' q (x / y) ∧ NumAt w' r (x % y)) ∧ Below w.heap.size w w' := by
  obtain ⟨a, ca, rfl, hra, hca⟩ := hu
  obtain ⟨b, cb, rfl, hrb, hcb⟩ := hv
  have hYp : 0 < y.natAbs := by omega
  have hmod := Nat.mod_lt x.natAbs hYp
  have hdm := Nat.div_add_mod x.natAbs y.natAbs
  have hdm2 : (x.natAbs / y.natAbs + 1) * y.natAbs = y.natAbs * (x.natAbs / y.natAbs) + y.natAbs := by rw [Nat.add_mul, Nat.mul_comm, Nat.one_mul]
  obtain ⟨e1, e2⟩ := nd_pure (x := x) (R := y.natAbs - x.natAbs % y.natAbs) h0 (by omega) (Q := x.natAbs / y.natAbs + 1) (fun h => by omega) (fun h => absurd hc.1 h)
  have hXY : x.natAbs / y.natAbs < 10000 ^ 120 := Nat.lt_of_le_of_lt (Nat.div_le_self _ _) hx
  have hX1 : x.natAbs / y.natAbs + 1 < 10000 ^ 250 := Nat.lt_of_lt_of_le (show _ < 10000 ^ 121 by rw [Nat.pow_succ]; omega) (Nat.pow_le_pow_right (by decide) (by decide))
  have h1b : (1 : Nat) < 10000 ^ 250 := Nat.lt_of_lt_of_le (show 1 < 10000 ^ 1 by decide) (Nat.pow_le_pow_right (by decide) (by decide))
  have HD := Lib.hid (fun W hm => mdiv x.natAbs y.natAbs (up250 hx) (up250 hy) hYp _ _ W (MagAt.via hm (mag_of_num hra hca)) (MagAt.via hm (mag_of_num hrb hcb)))
  have HP := Lib.hid (fun u v W hu hv => mplus (x.natAbs / y.natAbs) 1 (up250 hXY) h1b u v W hu hv)
  have HM := Lib.hid (fun v W hm hv => mminus y.natAbs (x.natAbs % y.natAbs) (up250 hy) (Nat.le_of_lt hmod) _ v W (MagAt.via hm (mag_of_num hrb hcb)) hv)
  have HS1 := Lib.hid (fun sv W hm => signed_any (decide (x < 0) != decide (y < 0)) (x.natAbs / y.natAbs + 1) sv W hX1 hm)
  have HS2 := Lib.hid (fun sv W hm => signed_any false (y.natAbs - x.natAbs % y.natAbs) sv W (Nat.lt_of_le_of_lt (Nat.sub_le _ _) (up250 hy)) hm)
  have e3 : sgn false (y.natAbs - x.natAbs % y.natAbs) = x % y := by rw [← e2]; rfl
  rw [e1] at HS1
  rw [e3] at HS2
  have hlen : ((digsL 10000 (x.natAbs % y.natAbs)).length : Int) ≤ 250 := by have := big_len (Nat.lt_of_le_of_lt (Nat.mod_le x.natAbs y.natAbs) (up250 hx)); omega
  have hlp : (0 : Int) < (digsL 10000 (x.natAbs % y.natAbs)).length := by
    have h1 : digsL 10000 (x.natAbs % y.natAbs) ≠ [] := fun e => by have := digsL_nil e; omega
    have := List.length_pos_iff.2 h1; omega
  have e4 : decide (x < 0) = true := by simp [hc.1]
  rw [e4] at HS1 ⊢
  rw [Bool.true_bne] at HS1
  generalize (digsL 10000 x.natAbs).length = n at *
  generalize (digsL 10000 y.natAbs).length = m at *
  generalize digsL 10000 (x.natAbs / y.natAbs + 1) = Q1 at *
  generalize digsL 10000 (y.natAbs - x.natAbs % y.natAbs) = R1 at *
  generalize digsL 10000 (x.natAbs / y.natAbs) = QL at *
  generalize digsL 10000 (x.natAbs % y.natAbs) = RL at *
  generalize x / y = qz at *
  generalize x % y = rz at *
  generalize decide (y < 0) = sy at *
  clear hx hy h0 hc hYp hmod hdm hdm2 e1 e2 e3 e4 hXY hX1 h1b
  go_enter Tryz.func38, Tryz.ntmps38
  go_wp2_with fail
  have hbx := box4_made w (.bool true) (.slice a n ca) (.bool sy) (.slice b m cb)
  generalize World.alloc (World.alloc _ _) _ = W at hbx ⊢
  refine (HD.out W hbx.bel).mono ?_
  rintro e w1 ⟨⟨q, r, rfl, hq, hr⟩, hB1⟩
  have HQ := Lib.hid hq
  have HR := Lib.hid hr
  obtain ⟨aq, cq, rfl, _, _⟩ := hq
  obtain ⟨ar, cr, rfl, _, _⟩ := hr
  have hbx := hbx.via hB1
  have ha1 := hbx.a1
  have ha2 := hbx.a2
  have hb1 := hbx.b1
  have hb2 := hbx.b2
  have HBX := Lib.hid hbx
  clear hbx hB1
  go_wp2_with fail
  go_region_held3 (fun w' => w'.cell? ⟨w.heap.size + 1, 1, none⟩ = some (.slice b m cb)) (first | exact hb2 | exact cellA _ hb2 | exact keptBelow hC2 (cellA _ hb2) | exact keptBelow hC3 (keptBelow hC2 (cellA _ hb2))) (first
    | (go_at_call 54; (with_reducible refine (HP.out _ _ _ ?_ ?_).mono ?_); exact MagAt.via (undrew (alloc_below _ _)) HQ.out; exact one_at _; rintro e w2 ⟨⟨r1, rfl, hm1⟩, hC2⟩)
    | (go_at_call 56; (with_reducible refine (HM.out _ _ ?_ ?_).mono ?_); exact belowVia hC2 (belowVia (undrew (alloc_below _ _)) HBX.out.bel); exact MagAt.via hC2 (MagAt.via (undrew (alloc_below _ _)) HR.out); rintro e w2b ⟨⟨r2, rfl, hm2⟩, hC3⟩))
  have hbx3 := ((HBX.out.via (undrew (alloc_below _ _))).via hC2).via hC3
  have HBX2 := Lib.hid hbx3
  have HM1 := Lib.hid (hm1.via hC3)
  have HM2 := Lib.hid hm2
  clear hbx3 hm1 hm2 hC2 hC3 ha1 ha2 hb1 hb2 HBX HQ HR HD HP HM
  have ha1 := HBX2.out.a1
  have hb1 := HBX2.out.b1
  go_wp2_with fail
  refine (HS1.out _ _ HM1.out).mono ?_
  rintro e w3 ⟨⟨v1, rfl, hn1⟩, hB3⟩
  obtain ⟨a8, c8, rfl, hr8, hc8⟩ := hn1
  go_wp2_with fail
  refine (HS2.out _ _ (HM2.out.via hB3)).mono ?_
  rintro e w4 ⟨⟨v2, rfl, hn2⟩, hB4⟩
  obtain ⟨a9, c9, rfl, hr9, hc9⟩ := hn2
  have hbx4 := (HBX2.out.via hB3).via hB4
  have HC8 := Lib.hid (hc8.via hB4)
  have HC9 := Lib.hid hc9
  have hq1 := (cell_of_row w4 _ 0 _ _ _ hbx4.r).trans rfl
  have hq2 := (cell_of_row w4 _ 1 _ _ _ hbx4.r).trans rfl
  have hf1 := frozen_of_row w4 _ 0 _ _ hbx4.r
  have hf2 := frozen_of_row w4 _ 1 _ _ hbx4.r
  have hq3 := (cell_of_row w4 _ 0 _ _ _ hbx4.s).trans rfl
  have hq4 := (cell_of_row w4 _ 1 _ _ _ hbx4.s).trans rfl
  have hf3 := frozen_of_row w4 _ 0 _ _ hbx4.s
  have hf4 := frozen_of_row w4 _ 1 _ _ hbx4.s
  have HBX4 := Lib.hid hbx4
  clear ha1 hb1 HBX2 hB3 hB4 hc8 hc9 hbx4
  go_wp2_with fail
  refine bodyPost_ret (results_nn rfl _ _ (w.heap.size + 1 + 1) (w.heap.size + 1 + 1 + 1) _ _ _ _ rfl HBX4.out.res.1 rfl HBX4.out.res.2) rfl ?_
  exact ⟨⟨_, _, rfl, ⟨a8, c8, rfl, hr8, HBX4.out.cells HC8.out⟩, ⟨a9, c9, rfl, hr9, HBX4.out.cells HC9.out⟩⟩, HBX4.out.fin⟩
theorem ndiv (x y : Int) (hx : x.natAbs < 10000 ^ 120) (hy : y.natAbs < 10000 ^ 120) (h0 : y ≠ 0) (u v : Value) (w : World) (hu : NumAt w u x) (hv : NumAt w v y)  :
    Calls Tryz.prog 38 #[u, v] w fun e w' => (∃ q r, e = .returned (.tuple #[q, r]) ∧ NumAt w' q (x / y) ∧ NumAt w' r (x % y)) ∧ Below w.heap.size w w' := by
  by_cases hc : x < 0 ∧ 0 < x.natAbs % y.natAbs
  · exact ndiv1 x y hx hy h0 hc u v w hu hv
  · exact ndiv0 x y hx hy h0 hc u v w hu hv
end Go.Proofs.YtggkbeppfpgkaaaGreatDoor
