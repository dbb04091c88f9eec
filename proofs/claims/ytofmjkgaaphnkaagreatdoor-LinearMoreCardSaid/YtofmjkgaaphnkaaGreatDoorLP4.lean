/- Several texts of layers 3 and 4, one behind the other: IntNum4, IntValid, IntRead2, IntBoth, IntComb, IntExp, IntConv, IntFrom, LinTwos, LinCardKit, LinMade, LinInvP, LinInv, LinDivi, LinTabM, LinTextP, LinFmt, LinText. -/
import Derived.Lib.ItoaNum
import Derived.Lib.AtoiAll
import Derived.Lib.AppendIntMem
import Derived.WalkSmall
import Derived.Laws.Bits64b
import Derived.Lib.TrailingZeros
import Derived.Lay
import Derived.Stop.LaidErr
import Derived.Deep.Slices
import Derived.Deep.Fields
import Derived.ChangeSame
import Derived.ChangeSlices
import Derived.Lib.SmallJoins
import Derived.StillTailTactics
import Derived.Lib.TrimByte
import Derived.Test.YtofmjkgaaphnkaaGreatDoorShelf
import Derived.Test.YtofmjkgaaphnkaaGreatDoorCards
import Derived.Test.YtofmjkgaaphnkaaGreatDoorTie
import Derived.Test.YtofmjkgaaphnkaaGreatDoorLP3
/- IntNum4: The contract of the division of numbers with a sign. -/
namespace Go.Proofs.YtofmjkgaaphnkaaGreatDoor
open Go.RowKit Putlog

theorem sgn_mul_y (s : Bool) (Q : Nat) (y : Int) : sgn s Q * y = sgn (s != decide (y < 0)) (Q * y.natAbs) := by
 rcases (show y < 0 ∨ 0 ≤ y by omega) with h | h
 ·have e : y = -(y.natAbs : Int) := by omega
  have e2 : decide (y < 0) = true := by simp [h]
  rw [e2]
  generalize y.natAbs = Y at e
  subst e
  cases s <;> simp [sgn, Int.neg_mul, Int.mul_neg]
 ·have e : y = (y.natAbs : Int) := by omega
  have e2 : decide (y < 0) = false := by simp; omega
  rw [e2]
  generalize y.natAbs = Y at e
  subst e
  cases s <;> simp [sgn, Int.neg_mul]
theorem nd_pure {x y : Int} (hy : y ≠ 0) {Q R : Nat} (hR : R < y.natAbs) (h1 : x < 0 → x.natAbs + R = Q * y.natAbs) (h2 : ¬ x < 0 → x.natAbs = Q * y.natAbs + R) :
  sgn (decide (x < 0) != decide (y < 0)) Q = x / y ∧ (R : Int) = x % y := by
 refine ediv_unique hy ?_ (by omega) (by omega)
 rw [sgn_mul_y]
 have e : ((decide (x < 0) != decide (y < 0)) != decide (y < 0)) = decide (x < 0) := by cases decide (x < 0) <;> cases decide (y < 0) <;> rfl
 rw [e]
 unfold sgn
 by_cases h : x < 0
 ·have := h1 h; simp only [h, decide_true, if_true]; omega
 ·have := h2 h; simp only [h, decide_false, Bool.false_eq_true, if_false]; omega
/-- Two numbers in boxes, and the boxes of two results. -/
structure Box4 (w W : World) (x1 x2 y1 y2 : Value) : Prop where
 a1 : W.cell? ⟨w.heap.size, 0, none⟩ = some x1
 a2 : W.cell? ⟨w.heap.size, 1, none⟩ = some x2
 b1 : W.cell? ⟨w.heap.size + 1, 0, none⟩ = some y1
 b2 : W.cell? ⟨w.heap.size + 1, 1, none⟩ = some y2
 r : W.heap[w.heap.size + 1 + 1]? = some (.cells #[.bool false, .slice none 0 0] 137 (0, 0))
 s : W.heap[w.heap.size + 1 + 1 + 1]? = some (.cells #[.bool false, .slice none 0 0] 137 (0, 0))
 bel : Below w.heap.size w W
theorem box4_made (w : World) (x1 x2 y1 y2 : Value) : Box4 w ((((w.alloc (.cells #[x1, x2] 137)).alloc (.cells #[y1, y2] 137)).alloc (.cells #[.bool false, .slice none 0 0] 137)).alloc (.cells #[.bool false, .slice none 0 0] 137)) x1 x2 y1 y2 := by
 have h := box3_made w x1 x2 y1 y2
 have hs : (((w.alloc (.cells #[x1, x2] 137)).alloc (.cells #[y1, y2] 137)).alloc (.cells #[.bool false, .slice none 0 0] 137)).heap.size = w.heap.size + 1 + 1 + 1 := by simp
 generalize ((w.alloc (.cells #[x1, x2] 137)).alloc (.cells #[y1, y2] 137)).alloc (.cells #[.bool false, .slice none 0 0] 137) = W at *
 have hb := alloc_below W (.cells #[.bool false, .slice none 0 0] 137)
 have hn := heap_alloc_new W (.cells #[.bool false, .slice none 0 0] 137)
 rw [hs] at hn
 have h := h.via hb
 exact ⟨h.a1, h.a2, h.b1, h.b2, h.r, hn, h.bel⟩
theorem Box4.via {w W W' : World} {x1 x2 y1 y2 : Value} (hB : Below W.heap.size W W') (h : Box4 w W x1 x2 y1 y2) : Box4 w W' x1 x2 y1 y2 :=
 ⟨keptBelow hB h.a1, keptBelow hB h.a2, keptBelow hB h.b1, keptBelow hB h.b2, heap_below hB h.r, heap_below hB h.s, belowVia hB h.bel⟩
def Fin4 (W : World) (p q : Nat) (r1 r2 s1 s2 : Value) : World := ((((W.setCell ⟨p, 0, none⟩ r1).setCell ⟨p, 1, none⟩ r2).setCell ⟨q, 0, none⟩ s1).setCell ⟨q, 1, none⟩ s2)
theorem Box4.res {w W : World} {x1 x2 y1 y2 r1 r2 s1 s2 : Value} (h : Box4 w W x1 x2 y1 y2) :
  (Fin4 W (w.heap.size + 1 + 1) (w.heap.size + 1 + 1 + 1) r1 r2 s1 s2).heap[w.heap.size + 1 + 1]? = some (.cells #[r1, r2] 137 (0, 0)) ∧
  (Fin4 W (w.heap.size + 1 + 1) (w.heap.size + 1 + 1 + 1) r1 r2 s1 s2).heap[w.heap.size + 1 + 1 + 1]? = some (.cells #[s1, s2] 137 (0, 0)) := by
 have h1 := heap_setCell_same W _ 0 _ _ r1 h.r
 have h2 := heap_setCell_same _ _ 1 _ _ r2 h1
 constructor
 ·unfold Fin4
  rw [heap_setCell_other _ _ _ _ (show w.heap.size + 1 + 1 ≠ w.heap.size + 1 + 1 + 1 by omega), heap_setCell_other _ _ _ _ (show w.heap.size + 1 + 1 ≠ w.heap.size + 1 + 1 + 1 by omega)]
  exact h2
 ·have h3 : ((W.setCell ⟨w.heap.size + 1 + 1, 0, none⟩ r1).setCell ⟨w.heap.size + 1 + 1, 1, none⟩ r2).heap[w.heap.size + 1 + 1 + 1]? = some (.cells #[.bool false, .slice none 0 0] 137 (0, 0)) := by
   rw [heap_setCell_other _ _ _ _ (show w.heap.size + 1 + 1 + 1 ≠ w.heap.size + 1 + 1 by omega), heap_setCell_other _ _ _ _ (show w.heap.size + 1 + 1 + 1 ≠ w.heap.size + 1 + 1 by omega)]
   exact h.s
  have h4 := heap_setCell_same _ _ 0 _ _ s1 h3
  exact heap_setCell_same _ _ 1 _ _ s2 h4
theorem Box4.cells {w W : World} {x1 x2 y1 y2 r1 r2 s1 s2 : Value} {a : Option Addr} {l : List Int} (h : Box4 w W x1 x2 y1 y2) (hc : CellsAt W a l) : CellsAt (Fin4 W (w.heap.size + 1 + 1) (w.heap.size + 1 + 1 + 1) r1 r2 s1 s2) a l := by
 have h1 := cells_res (v := r1) (v2 := r2) hc h.r
 have h3 : ((W.setCell ⟨w.heap.size + 1 + 1, 0, none⟩ r1).setCell ⟨w.heap.size + 1 + 1, 1, none⟩ r2).heap[w.heap.size + 1 + 1 + 1]? = some (.cells #[.bool false, .slice none 0 0] 137 (0, 0)) := by
  rw [heap_setCell_other _ _ _ _ (show w.heap.size + 1 + 1 + 1 ≠ w.heap.size + 1 + 1 by omega), heap_setCell_other _ _ _ _ (show w.heap.size + 1 + 1 + 1 ≠ w.heap.size + 1 + 1 by omega)]
  exact h.s
 exact cells_res h1 h3
theorem Box4.fin {w W : World} {x1 x2 y1 y2 r1 r2 s1 s2 : Value} (h : Box4 w W x1 x2 y1 y2) : Below w.heap.size w (Fin4 W (w.heap.size + 1 + 1) (w.heap.size + 1 + 1 + 1) r1 r2 s1 s2) := below_res (below_res h.bel (by omega) _ _) (by omega) _ _
set_option maxRecDepth 100000 in
set_option maxHeartbeats 4000000 in
theorem ndiv0 (x y : Int) (hx : x.natAbs < 10000 ^ 120) (hy : y.natAbs < 10000 ^ 120) (h0 : y ≠ 0) (hc : ¬ (x < 0 ∧ 0 < x.natAbs % y.natAbs)) (u v : Value) (w : World) (hu : NumAt w u x) (hv : NumAt w v y)  :
  Calls Tryz.prog 134 #[u, v] w fun e w' => (∃ q r, e = .returned (.tuple #[q, r]) ∧ NumAt w' q (x / y) ∧ NumAt w' r (x % y)) ∧ Below w.heap.size w w' := by
 obtain ⟨a, ca, rfl, hra, hca⟩ := hu
 obtain ⟨b, cb, rfl, hrb, hcb⟩ := hv
 have hYp : 0 < y.natAbs := by omega
 have hmod := Nat.mod_lt x.natAbs hYp
 have hdm := Nat.div_add_mod x.natAbs y.natAbs
 have hdm2 : x.natAbs / y.natAbs * y.natAbs = y.natAbs * (x.natAbs / y.natAbs) := Nat.mul_comm _ _
 have hz0 : x < 0 → x.natAbs % y.natAbs = 0 := fun h => Nat.eq_zero_of_not_pos fun k => hc ⟨h, k⟩
 obtain ⟨e1, e2⟩ := nd_pure (x := x) h0 hmod (Q := x.natAbs / y.natAbs) (fun h => by have := hz0 h; omega) (fun h => by omega)
 have HD := Lib.hid (fun W hm => mdiv x.natAbs y.natAbs (up250 hx) (up250 hy) hYp _ _ W (MagAt.via hm (mag_of_num hra hca)) (MagAt.via hm (mag_of_num hrb hcb)))
 have HS1 := Lib.hid (fun sv W hm => signed_any (decide (x < 0) != decide (y < 0)) (x.natAbs / y.natAbs) sv W (Nat.lt_of_le_of_lt (Nat.div_le_self _ _) (up250 hx)) hm)
 have HS2 := Lib.hid (fun sv W hm => signed_any false (x.natAbs % y.natAbs) sv W (Nat.lt_of_le_of_lt (Nat.mod_le _ _) (up250 hx)) hm)
 have e3 : sgn false (x.natAbs % y.natAbs) = x % y := by rw [← e2]; rfl
 rw [e1] at HS1
 rw [e3] at HS2
 have hcond : decide (x < 0) = false ∨ (digsL 10000 (x.natAbs % y.natAbs)).length = 0 := by
  by_cases h : x < 0
  ·right
   rw [hz0 h, digsL_zero]; rfl
  ·left; simp; omega
 have hlen : ((digsL 10000 (x.natAbs % y.natAbs)).length : Int) ≤ 250 := by have := big_len (Nat.lt_of_le_of_lt (Nat.mod_le x.natAbs y.natAbs) (up250 hx)); omega
 generalize (digsL 10000 x.natAbs).length = n at *
 generalize (digsL 10000 y.natAbs).length = m at *
 generalize digsL 10000 (x.natAbs / y.natAbs) = QL at *
 generalize digsL 10000 (x.natAbs % y.natAbs) = RL at *
 generalize x / y = qz at *
 generalize x % y = rz at *
 generalize decide (x < 0) = sx at *
 generalize decide (y < 0) = sy at *
 clear hz0 hx hy h0 hc hYp hmod hdm hdm2 e1 e2 e3
 by_cases hsx : sx = false
 ·subst hsx
  rw [Bool.false_bne] at HS1
  clear hcond
  go_enter Tryz.func134, Tryz.ntmps134
  go_wp2_with fail
  have hbx := box4_made w (.bool false) (.slice a n ca) (.bool sy) (.slice b m cb)
  generalize World.alloc (World.alloc _ _) _ = W at hbx ⊢
  refine (HD.out W hbx.bel).mono ?_
  rintro e w1 ⟨⟨q, r, rfl, hq, hr⟩, hB1⟩
  obtain ⟨aq, cq, rfl, hrq, hcq⟩ := hq
  obtain ⟨ar, cr, rfl, hrr, hcr⟩ := hr
  have hbx := hbx.via hB1
  have ha1 := hbx.a1
  have ha2 := hbx.a2
  have hb1 := hbx.b1
  have hb2 := hbx.b2
  have HBX := Lib.hid hbx
  clear hbx hB1
  go_wp2_with fail
  refine (HS1.out _ _ ⟨aq, cq, rfl, hrq, hcq⟩).mono ?_
  rintro e w3 ⟨⟨v1, rfl, hn1⟩, hB3⟩
  obtain ⟨a8, c8, rfl, hr8, hc8⟩ := hn1
  go_wp2_with fail
  refine (HS2.out _ _ ⟨ar, cr, rfl, hrr, hcr.via hB3⟩).mono ?_
  rintro e w4 ⟨⟨v2, rfl, hn2⟩, hB4⟩
  obtain ⟨a9, c9, rfl, hr9, hc9⟩ := hn2
  have hbx4 := (HBX.out.via hB3).via hB4
  have HC8 := Lib.hid (hc8.via hB4)
  have HC9 := Lib.hid hc9
  have hq1 := (cell_of_row w4 _ 0 _ _ _ hbx4.r).trans rfl
  have hq2 := (cell_of_row w4 _ 1 _ _ _ hbx4.r).trans rfl
  have hf1 := frozen_of_row w4 _ 0 _ _ hbx4.r
  have hf2 := frozen_of_row w4 _ 1 _ _ hbx4.r
  have hq3 := (cell_of_row w4 _ 0 _ _ _ hbx4.s).trans rfl
  have hq4 := (cell_of_row w4 _ 1 _ _ _ hbx4.s).trans rfl
  have hf3 := frozen_of_row w4 _ 0 _ _ hbx4.s
  have hf4 := frozen_of_row w4 _ 1 _ _ hbx4.s
  have HBX4 := Lib.hid hbx4
  clear ha1 ha2 hb1 hb2 HBX hB3 hB4 hc8 hc9 hbx4
  go_wp2_with fail
  refine bodyPost_ret (results_nn rfl _ _ (w.heap.size + 1 + 1) (w.heap.size + 1 + 1 + 1) _ _ _ _ rfl HBX4.out.res.1 rfl HBX4.out.res.2) rfl ?_
  exact ⟨⟨_, _, rfl, ⟨a8, c8, rfl, hr8, HBX4.out.cells HC8.out⟩, ⟨a9, c9, rfl, hr9, HBX4.out.cells HC9.out⟩⟩, HBX4.out.fin⟩
 ·obtain rfl : sx = true := by simpa using hsx
  rw [Bool.true_bne] at HS1
  obtain rfl : RL = [] := List.length_eq_zero_iff.1 (hcond.resolve_left hsx)
  clear hcond hlen
  go_enter Tryz.func134, Tryz.ntmps134
  go_wp2_with fail
  have hbx := box4_made w (.bool true) (.slice a n ca) (.bool sy) (.slice b m cb)
  generalize World.alloc (World.alloc _ _) _ = W at hbx ⊢
  refine (HD.out W hbx.bel).mono ?_
  rintro e w1 ⟨⟨q, r, rfl, hq, hr⟩, hB1⟩
  obtain ⟨aq, cq, rfl, hrq, hcq⟩ := hq
  obtain ⟨ar, cr, rfl, hrr, hcr⟩ := hr
  have hbx := hbx.via hB1
  have ha1 := hbx.a1
  have ha2 := hbx.a2
  have hb1 := hbx.b1
  have hb2 := hbx.b2
  have HBX := Lib.hid hbx
  clear hbx hB1
  go_wp2_with fail
  refine (HS1.out _ _ ⟨aq, cq, rfl, hrq, hcq⟩).mono ?_
  rintro e w3 ⟨⟨v1, rfl, hn1⟩, hB3⟩
  obtain ⟨a8, c8, rfl, hr8, hc8⟩ := hn1
  go_wp2_with fail
  refine (HS2.out _ _ ⟨ar, cr, rfl, hrr, hcr.via hB3⟩).mono ?_
  rintro e w4 ⟨⟨v2, rfl, hn2⟩, hB4⟩
  obtain ⟨a9, c9, rfl, hr9, hc9⟩ := hn2
  have hbx4 := (HBX.out.via hB3).via hB4
  have HC8 := Lib.hid (hc8.via hB4)
  have HC9 := Lib.hid hc9
  have hq1 := (cell_of_row w4 _ 0 _ _ _ hbx4.r).trans rfl
  have hq2 := (cell_of_row w4 _ 1 _ _ _ hbx4.r).trans rfl
  have hf1 := frozen_of_row w4 _ 0 _ _ hbx4.r
  have hf2 := frozen_of_row w4 _ 1 _ _ hbx4.r
  have hq3 := (cell_of_row w4 _ 0 _ _ _ hbx4.s).trans rfl
  have hq4 := (cell_of_row w4 _ 1 _ _ _ hbx4.s).trans rfl
  have hf3 := frozen_of_row w4 _ 0 _ _ hbx4.s
  have hf4 := frozen_of_row w4 _ 1 _ _ hbx4.s
  have HBX4 := Lib.hid hbx4
  clear ha1 ha2 hb1 hb2 HBX hB3 hB4 hc8 hc9 hbx4
  go_wp2_with fail
  refine bodyPost_ret (results_nn rfl _ _ (w.heap.size + 1 + 1) (w.heap.size + 1 + 1 + 1) _ _ _ _ rfl HBX4.out.res.1 rfl HBX4.out.res.2) rfl ?_
  exact ⟨⟨_, _, rfl, ⟨a8, c8, rfl, hr8, HBX4.out.cells HC8.out⟩, ⟨a9, c9, rfl, hr9, HBX4.out.cells HC9.out⟩⟩, HBX4.out.fin⟩
theorem digsL_one : digsL 10000 1 = [1] := by rw [digsL_pos (by decide) (by decide), show 1 / 10000 = 0 from rfl, digsL_zero]
theorem one_at (W : World) : MagAt (W.alloc (.cells #[.int .i64 1] 3)) (.slice (some ⟨W.heap.size, 0, none⟩) 1 1) (digsL 10000 1) := by
 rw [digsL_one]
 refine ⟨_, 1, rfl, ⟨Nat.le_refl _, by omega⟩, .inr ⟨W.heap.size, 0, rfl, fun j hj => ?_⟩⟩
 have : j = 0 := by simp [ofN] at hj; exact hj
 subst this
 exact cell_box W (.int .i64 1) _
set_option maxRecDepth 100000 in
set_option maxHeartbeats 4000000 in
theorem ndiv1 (x y : Int) (hx : x.natAbs < 10000 ^ 120) (hy : y.natAbs < 10000 ^ 120) (h0 : y ≠ 0) (hc : x < 0 ∧ 0 < x.natAbs % y.natAbs) (u v : Value) (w : World) (hu : NumAt w u x) (hv : NumAt w v y)  :
  Calls Tryz.prog 134 #[u, v] w fun e w' => (∃ q r, e = .returned (.tuple #[q, r]) ∧ NumAt w' q (x / y) ∧ NumAt w' r (x % y)) ∧ Below w.heap.size w w' := by
 obtain ⟨a, ca, rfl, hra, hca⟩ := hu
 obtain ⟨b, cb, rfl, hrb, hcb⟩ := hv
 have hYp : 0 < y.natAbs := by omega
 have hmod := Nat.mod_lt x.natAbs hYp
 have hdm := Nat.div_add_mod x.natAbs y.natAbs
 have hdm2 : (x.natAbs / y.natAbs + 1) * y.natAbs = y.natAbs * (x.natAbs / y.natAbs) + y.natAbs := by rw [Nat.add_mul, Nat.mul_comm, Nat.one_mul]
 obtain ⟨e1, e2⟩ := nd_pure (x := x) (R := y.natAbs - x.natAbs % y.natAbs) h0 (by omega) (Q := x.natAbs / y.natAbs + 1) (fun h => by omega) (fun h => absurd hc.1 h)
 have hXY : x.natAbs / y.natAbs < 10000 ^ 120 := Nat.lt_of_le_of_lt (Nat.div_le_self _ _) hx
 have hX1 : x.natAbs / y.natAbs + 1 < 10000 ^ 250 := Nat.lt_of_lt_of_le (show _ < 10000 ^ 121 by rw [Nat.pow_succ]; omega) (Nat.pow_le_pow_right (by decide) (by decide))
 have h1b : (1 : Nat) < 10000 ^ 250 := Nat.lt_of_lt_of_le (show 1 < 10000 ^ 1 by decide) (Nat.pow_le_pow_right (by decide) (by decide))
 have HD := Lib.hid (fun W hm => mdiv x.natAbs y.natAbs (up250 hx) (up250 hy) hYp _ _ W (MagAt.via hm (mag_of_num hra hca)) (MagAt.via hm (mag_of_num hrb hcb)))
 have HP := Lib.hid (fun u v W hu hv => mplus (x.natAbs / y.natAbs) 1 (up250 hXY) h1b u v W hu hv)
 have HM := Lib.hid (fun v W hm hv => mminus y.natAbs (x.natAbs % y.natAbs) (up250 hy) (Nat.le_of_lt hmod) _ v W (MagAt.via hm (mag_of_num hrb hcb)) hv)
 have HS1 := Lib.hid (fun sv W hm => signed_any (decide (x < 0) != decide (y < 0)) (x.natAbs / y.natAbs + 1) sv W hX1 hm)
 have HS2 := Lib.hid (fun sv W hm => signed_any false (y.natAbs - x.natAbs % y.natAbs) sv W (Nat.lt_of_le_of_lt (Nat.sub_le _ _) (up250 hy)) hm)
 have e3 : sgn false (y.natAbs - x.natAbs % y.natAbs) = x % y := by rw [← e2]; rfl
 rw [e1] at HS1
 rw [e3] at HS2
 have hlen : ((digsL 10000 (x.natAbs % y.natAbs)).length : Int) ≤ 250 := by have := big_len (Nat.lt_of_le_of_lt (Nat.mod_le x.natAbs y.natAbs) (up250 hx)); omega
 have hlp : (0 : Int) < (digsL 10000 (x.natAbs % y.natAbs)).length := by
  have h1 : digsL 10000 (x.natAbs % y.natAbs) ≠ [] := fun e => by have := digsL_nil e; omega
  have := List.length_pos_iff.2 h1; omega
 have e4 : decide (x < 0) = true := by simp [hc.1]
 rw [e4] at HS1 ⊢
 rw [Bool.true_bne] at HS1
 generalize (digsL 10000 x.natAbs).length = n at *
 generalize (digsL 10000 y.natAbs).length = m at *
 generalize digsL 10000 (x.natAbs / y.natAbs + 1) = Q1 at *
 generalize digsL 10000 (y.natAbs - x.natAbs % y.natAbs) = R1 at *
 generalize digsL 10000 (x.natAbs / y.natAbs) = QL at *
 generalize digsL 10000 (x.natAbs % y.natAbs) = RL at *
 generalize x / y = qz at *
 generalize x % y = rz at *
 generalize decide (y < 0) = sy at *
 clear hx hy h0 hc hYp hmod hdm hdm2 e1 e2 e3 e4 hXY hX1 h1b
 go_enter Tryz.func134, Tryz.ntmps134
 go_wp2_with fail
 have hbx := box4_made w (.bool true) (.slice a n ca) (.bool sy) (.slice b m cb)
 generalize World.alloc (World.alloc _ _) _ = W at hbx ⊢
 refine (HD.out W hbx.bel).mono ?_
 rintro e w1 ⟨⟨q, r, rfl, hq, hr⟩, hB1⟩
 have HQ := Lib.hid hq
 have HR := Lib.hid hr
 obtain ⟨aq, cq, rfl, _, _⟩ := hq
 obtain ⟨ar, cr, rfl, _, _⟩ := hr
 have hbx := hbx.via hB1
 have ha1 := hbx.a1
 have ha2 := hbx.a2
 have hb1 := hbx.b1
 have hb2 := hbx.b2
 have HBX := Lib.hid hbx
 clear hbx hB1
 go_wp2_with fail
 go_region_held3 (fun w' => w'.cell? ⟨w.heap.size + 1, 1, none⟩ = some (.slice b m cb)) (first | exact hb2 | exact cellA _ hb2 | exact keptBelow hC2 (cellA _ hb2) | exact keptBelow hC3 (keptBelow hC2 (cellA _ hb2))) (first
  | (go_at_call 140; (with_reducible refine (HP.out _ _ _ ?_ ?_).mono ?_); exact MagAt.via (undrew (alloc_below _ _)) HQ.out; exact one_at _; rintro e w2 ⟨⟨r1, rfl, hm1⟩, hC2⟩)
  | (go_at_call 142; (with_reducible refine (HM.out _ _ ?_ ?_).mono ?_); exact belowVia hC2 (belowVia (undrew (alloc_below _ _)) HBX.out.bel); exact MagAt.via hC2 (MagAt.via (undrew (alloc_below _ _)) HR.out); rintro e w2b ⟨⟨r2, rfl, hm2⟩, hC3⟩))
 have hbx3 := ((HBX.out.via (undrew (alloc_below _ _))).via hC2).via hC3
 have HBX2 := Lib.hid hbx3
 have HM1 := Lib.hid (hm1.via hC3)
 have HM2 := Lib.hid hm2
 clear hbx3 hm1 hm2 hC2 hC3 ha1 ha2 hb1 hb2 HBX HQ HR HD HP HM
 have ha1 := HBX2.out.a1
 have hb1 := HBX2.out.b1
 go_wp2_with fail
 refine (HS1.out _ _ HM1.out).mono ?_
 rintro e w3 ⟨⟨v1, rfl, hn1⟩, hB3⟩
 obtain ⟨a8, c8, rfl, hr8, hc8⟩ := hn1
 go_wp2_with fail
 refine (HS2.out _ _ (HM2.out.via hB3)).mono ?_
 rintro e w4 ⟨⟨v2, rfl, hn2⟩, hB4⟩
 obtain ⟨a9, c9, rfl, hr9, hc9⟩ := hn2
 have hbx4 := (HBX2.out.via hB3).via hB4
 have HC8 := Lib.hid (hc8.via hB4)
 have HC9 := Lib.hid hc9
 have hq1 := (cell_of_row w4 _ 0 _ _ _ hbx4.r).trans rfl
 have hq2 := (cell_of_row w4 _ 1 _ _ _ hbx4.r).trans rfl
 have hf1 := frozen_of_row w4 _ 0 _ _ hbx4.r
 have hf2 := frozen_of_row w4 _ 1 _ _ hbx4.r
 have hq3 := (cell_of_row w4 _ 0 _ _ _ hbx4.s).trans rfl
 have hq4 := (cell_of_row w4 _ 1 _ _ _ hbx4.s).trans rfl
 have hf3 := frozen_of_row w4 _ 0 _ _ hbx4.s
 have hf4 := frozen_of_row w4 _ 1 _ _ hbx4.s
 have HBX4 := Lib.hid hbx4
 clear ha1 hb1 HBX2 hB3 hB4 hc8 hc9 hbx4
 go_wp2_with fail
 refine bodyPost_ret (results_nn rfl _ _ (w.heap.size + 1 + 1) (w.heap.size + 1 + 1 + 1) _ _ _ _ rfl HBX4.out.res.1 rfl HBX4.out.res.2) rfl ?_
 exact ⟨⟨_, _, rfl, ⟨a8, c8, rfl, hr8, HBX4.out.cells HC8.out⟩, ⟨a9, c9, rfl, hr9, HBX4.out.cells HC9.out⟩⟩, HBX4.out.fin⟩
theorem ndiv (x y : Int) (hx : x.natAbs < 10000 ^ 120) (hy : y.natAbs < 10000 ^ 120) (h0 : y ≠ 0) (u v : Value) (w : World) (hu : NumAt w u x) (hv : NumAt w v y)  :
  Calls Tryz.prog 134 #[u, v] w fun e w' => (∃ q r, e = .returned (.tuple #[q, r]) ∧ NumAt w' q (x / y) ∧ NumAt w' r (x % y)) ∧ Below w.heap.size w w' := by
 by_cases hc : x < 0 ∧ 0 < x.natAbs % y.natAbs
 ·exact ndiv1 x y hx hy h0 hc u v w hu hv
 ·exact ndiv0 x y hx hy h0 hc u v w hu hv
end Go.Proofs.YtofmjkgaaphnkaaGreatDoor
/- IntValid: The contract of Valid. -/
namespace Go.Proofs.YtofmjkgaaphnkaaGreatDoor
open Go.RowKit Putlog

theorem trim_minus (l : List UInt8) : Lib.trimPrefix l [45] = if l.head? = some 45 then l.tail else l := by
 cases l with
 | nil => rfl
 | cons c t =>
  by_cases h : c = 45
  ·subst h; simp [Lib.trimPrefix, Lib.hasPrefix]
  ·simp [Lib.trimPrefix, Lib.hasPrefix, h]
   intro h2; exact absurd h2.symm h
theorem validT_form (l : List UInt8) (h0 : l ≠ [48]) : validT l = ((Lib.trimPrefix l [45]).all isDigB && !(Lib.trimPrefix l [45]).isEmpty && decide ((Lib.trimPrefix l [45]).length ≤ 200) && !((Lib.trimPrefix l [45]).head? == some 48)) := by
 rw [trim_minus]
 unfold validT
 split
 ·rfl
 ·have : (l == [48]) = false := by simpa using h0
  rw [this, Bool.false_or]
theorem hasPrefix_minus (l : List UInt8) : Lib.hasPrefix l [45] = decide (l.head? = some 45) := by
 cases l with
 | nil => rfl
 | cons c t =>
  by_cases h : c = 45
  ·subst h; simp [Lib.hasPrefix]
  ·have : ((45 : UInt8) == c) = false := by rw [beq_eq_false_iff_ne]; exact fun e => h e.symm
   simp [Lib.hasPrefix, List.isPrefixOf, this, h]
theorem not_dig {l : List UInt8} {k : Nat} (h : k < l.length) (hd : ¬ IsDig l[k]) : l.all isDigB = false := by
 rw [Bool.eq_false_iff]
 intro h2
 exact hd ((all_isDigB l).1 h2 _ (List.getElem_mem h))
set_option maxRecDepth 100000 in
set_option maxHeartbeats 4000000 in
theorem valid_any (s : ByteArray) (hs : (s.size : Int) ≤ 9223372036854775807) (w : World) :
  Calls Tryz.prog 91 #[.string s] w fun e w' => e = .returned (.bool (validT s.data.toList)) ∧ w' = w := by
 by_cases h0 : s.data.toList = [48]
 ·have e1 : (s.toList == [48]) = true := by rw [ByteArray.toList_eq, h0]; rfl
  have e2 : validT s.data.toList = true := by rw [h0]; decide
  rw [e2]
  clear h0 e2
  go_enter Tryz.func91, Tryz.ntmps91
  go_wp2_with fail
  go_ret
  exact ⟨rfl, rfl⟩
 ·have e1 : (s.toList == [48]) = false := by rw [ByteArray.toList_eq]; simpa using h0
  have HV := Lib.hid (validT_form s.data.toList h0)
  have hT := Tryz.strings_TrimPrefix s ⟨#[45]⟩
  simp only at hT
  obtain ⟨d, hd⟩ : ∃ d : ByteArray, d = ⟨(Lib.trimPrefix s.data.toList [45]).toArray⟩ := ⟨_, rfl⟩
  have hdl : d.data.toList = Lib.trimPrefix s.data.toList [45] := by rw [hd]
  rw [← hd] at hT
  rw [← hdl] at HV
  have hds : (d.size : Int) ≤ 9223372036854775807 := by
   have h1 : d.size = d.data.toList.length := by rw [Array.length_toList]; rfl
   have h2 : s.size = s.data.toList.length := by rw [Array.length_toList]; rfl
   have h3 : d.data.toList.length ≤ s.data.toList.length := by
    rw [hdl, trim_minus]; split
    ·simp
    ·exact Nat.le_refl _
   omega
  have HT := Lib.hid hT
  have hsz : d.data.toList.length = d.size := by rw [Array.length_toList]; rfl
  rw [HV.out]
  clear h0 hT hd hdl HV
  by_cases c0 : d.data.toList = []
  ·have e2 : (d.toList == []) = true := by rw [ByteArray.toList_eq, c0]; rfl
   have e3 : (d.data.toList.all isDigB && !d.data.toList.isEmpty && decide (d.data.toList.length ≤ 200) && !(d.data.toList.head? == some 48)) = false := by rw [c0]; rfl
   rw [e3]
   clear e3 c0 hsz
   go_enter Tryz.func91, Tryz.ntmps91
   go_wp2_with fail
   refine (HT.out w).mono ?_
   rintro e w1 ⟨rfl, rfl⟩
   go_wp2_with fail
   go_ret
   exact ⟨rfl, rfl⟩
  ·have e2 : (d.toList == []) = false := by rw [ByteArray.toList_eq]; simpa using c0
   have hpos : 0 < d.size := by have := List.length_pos_iff.2 c0; omega
   by_cases c1 : 200 < d.size
   ·have e3 : (d.data.toList.all isDigB && !d.data.toList.isEmpty && decide (d.data.toList.length ≤ 200) && !(d.data.toList.head? == some 48)) = false := by
     rw [hsz]; simp; intros; omega
    rw [e3]
    have c1' : (200 : Int) < d.size := by omega
    clear e3 c0 hsz c1
    go_enter Tryz.func91, Tryz.ntmps91
    go_wp2_with fail
    refine (HT.out w).mono ?_
    rintro e w1 ⟨rfl, rfl⟩
    go_wp2_with fail
    go_ret
    exact ⟨rfl, rfl⟩
   ·have c1' : ¬ (200 : Int) < d.size := by omega
    have hgd : ∀ k (h : k < d.size), ∃ h2 : k < d.data.toList.length, d[k] = d.data.toList[k]'h2 := fun k h => ⟨by omega, by simp [ByteArray.getElem_eq_getElem_data]⟩
    have hh : d.data.toList.head? = some d[0] := by
     obtain ⟨h2, h3⟩ := hgd 0 hpos
     rw [h3, List.head?_eq_getElem?, List.getElem?_eq_getElem h2]
    have hp' : (0 : Int) < d.size := by omega
    by_cases c2 : d[0] = 48
    ·have e3 : (d.data.toList.all isDigB && !d.data.toList.isEmpty && decide (d.data.toList.length ≤ 200) && !(d.data.toList.head? == some 48)) = false := by
      rw [hh, c2]; simp
     rw [e3]
     have e4 : (((d[0]).toNat : Int) == 48) = true := by rw [c2]; rfl
     clear e3 c0 hsz c1 hh hgd c2
     go_enter Tryz.func91, Tryz.ntmps91
     go_wp2_with fail
     refine (HT.out w).mono ?_
     rintro e w1 ⟨rfl, rfl⟩
     go_wp2_with fail
     go_ret
     exact ⟨rfl, rfl⟩
    ·have e4 : (((d[0]).toNat : Int) == 48) = false := by
      simp
      intro h
      exact c2 (UInt8.toNat_inj.1 (by rw [show (48 : UInt8).toNat = 48 from rfl]; omega))
     have e3 : (d.data.toList.all isDigB && !d.data.toList.isEmpty && decide (d.data.toList.length ≤ 200) && !(d.data.toList.head? == some 48)) = d.data.toList.all isDigB := by
      have h1 : (d.data.toList.head? == some 48) = false := by rw [hh]; simpa using c2
      have h2 : d.data.toList.isEmpty = false := by simpa using c0
      rw [h1, h2, hsz]; simp; omega
     rw [e3]
     obtain ⟨bb, hbb⟩ : ∃ bb, bb = d.data.toList.all isDigB := ⟨_, rfl⟩
     rw [← hbb]
     have HBB := Lib.hid hbb
     have HG := Lib.hid hgd
     have HZ := Lib.hid hsz
     clear hbb
     clear e3 c0 hsz c1 hh hgd c2
     go_enter Tryz.func91, Tryz.ntmps91
     go_wp2_with fail
     refine (HT.out w).mono ?_
     rintro e w1 ⟨rfl, rfl⟩
     go_wp2_with fail
     go_loopw [23] (fun i wr => ∃ k : Nat, k ≤ d.size ∧ i = .int .i64 k ∧ wr = w1 ∧ ∀ j (h : j < d.data.toList.length), j < k → IsDig (d.data.toList[j]'h)) (fun i _ => d.size - (intOf i).toNat)
     case atStart => exact ⟨0, by omega, rfl, rfl, fun j _ h => by omega⟩
     case round =>
      obtain ⟨k, hk, rfl, rfl, hdig⟩ := hrel
      have HDG := Lib.hid hdig
      clear hdig
      by_cases hlt : k < d.size
      ·have hlt' : (k : Int) < d.size := by omega
       obtain ⟨h2, h3⟩ := HG.out k hlt
       by_cases hdx : IsDig d[k]
       ·have b1 : (48 : Int) ≤ (d[k]).toNat := by have := hdx.1; omega
        have b2 : ((d[k]).toNat : Int) ≤ 57 := by have := hdx.2; omega
        have HN : Hid (∀ j (h : j < d.data.toList.length), j < k + 1 → IsDig (d.data.toList[j]'h)) := fun j h hj => by
         rcases Nat.lt_or_ge j k with h4 | h4
         ·exact HDG.out j h h4
         ·have : j = k := by omega
          subst this
          rw [← h3]; exact hdx
        clear hdx h3
        go_wp2_with fail
        exact ⟨⟨k + 1, by omega, by go_num, trivial, HN.out⟩, by simp [intOf]; omega⟩
       ·have HF := Lib.hid (HBB.out.trans (not_dig h2 (by rw [← h3]; exact hdx)))
        have hor : ((d[k]).toNat : Int) < 48 ∨ (57 : Int) < (d[k]).toNat := by unfold IsDig at hdx; omega
        rcases hor with hor | hor
        ·clear hdx h3
         go_wp2_with fail
         go_ret
         exact ⟨congrArg (fun b => Ending.returned (Value.bool b)) HF.out.symm, rfl⟩
        ·have b3 : ¬ ((d[k]).toNat : Int) < 48 := by omega
         clear hdx h3
         go_wp2_with fail
         go_ret
         exact ⟨congrArg (fun b => Ending.returned (Value.bool b)) HF.out.symm, rfl⟩
      ·obtain rfl : k = d.size := by omega
       have hall : d.data.toList.all isDigB = true := (all_isDigB _).2 fun c hc => by
        obtain ⟨j, hj, rfl⟩ := List.mem_iff_getElem.1 hc
        exact HDG.out j hj (by rw [← HZ.out]; exact hj)
       have HF := Lib.hid (HBB.out.trans hall)
       clear hall
       go_wp2_with fail
       go_ret
       exact ⟨congrArg (fun b => Ending.returned (Value.bool b)) HF.out.symm, rfl⟩
end Go.Proofs.YtofmjkgaaphnkaaGreatDoor
/- IntRead2: The contracts of read and readBoth. -/
namespace Go.Proofs.YtofmjkgaaphnkaaGreatDoor
open Go.RowKit Putlog

theorem fits_big {z : Int} (h : Fits z) : z.natAbs < 10000 ^ 50 := by
 have : (10000 : Nat) ^ 50 = 10 ^ 200 := by rw [show (10000 : Nat) = 10 ^ 4 from rfl, ← Nat.pow_mul]
 rw [this]; exact h
theorem fits120 {z : Int} (h : Fits z) : z.natAbs < 10000 ^ 120 := Nat.lt_of_lt_of_le (fits_big h) (Nat.pow_le_pow_right (by decide) (by decide))
theorem fits250 {z : Int} (h : Fits z) : z.natAbs < 10000 ^ 250 := up250 (fits120 h)
theorem intT_trim (z : Int) : Lib.trimPrefix (intT z) [45] = natT z.natAbs := by
 rw [trim_minus]
 unfold intT
 by_cases h : z < 0
 ·rw [if_pos h]; rfl
 ·rw [if_neg h, if_neg (natT_head_dig _)]
theorem intT_has (z : Int) : Lib.hasPrefix (intT z) [45] = decide (z < 0) := by
 rw [hasPrefix_minus]
 unfold intT
 by_cases h : z < 0
 ·rw [if_pos h]; simp [h]
 ·rw [if_neg h]; simp [h, natT_head_dig]
theorem sgn_self (z : Int) : sgn (decide (z < 0)) z.natAbs = z := by
 unfold sgn
 by_cases h : z < 0
 ·simp [h]; omega
 ·simp [h]; omega
theorem intB_list (z : Int) : (intB z).data.toList = intT z := by simp [intB]
/-- The box of a result alone. -/
structure Box1 (w W : World) : Prop where
 r : W.heap[w.heap.size]? = some (.cells #[.bool false, .slice none 0 0] 137 (0, 0))
 bel : Below w.heap.size w W
theorem box1_made (w : World) : Box1 w (w.alloc (.cells #[.bool false, .slice none 0 0] 137)) := ⟨heap_alloc_new w _, alloc_below w _⟩
theorem Box1.via {w W W' : World} (hB : Below W.heap.size W W') (h : Box1 w W) : Box1 w W' := ⟨heap_below hB h.r, belowVia hB h.bel⟩
theorem Box1.res {w W : World} {r1 r2 : Value} (h : Box1 w W) : ((W.setCell ⟨w.heap.size, 0, none⟩ r1).setCell ⟨w.heap.size, 1, none⟩ r2).heap[w.heap.size]? = some (.cells #[r1, r2] 137 (0, 0)) := by
 have h1 := heap_setCell_same W _ 0 _ _ r1 h.r
 exact heap_setCell_same _ _ 1 _ _ r2 h1
set_option maxRecDepth 100000 in
set_option maxHeartbeats 4000000 in
theorem read_ok (z : Int) (hz : Fits z) (w : World) :
  Calls Tryz.prog 154 #[.string (intB z)] w fun e w' => (∃ v, e = .returned (.tuple #[v, .bool true]) ∧ NumAt w' v z) ∧ Below w.heap.size w w' := by
 have hsz := intT_size hz (by decide)
 have hV := valid_any (intB z) (by omega)
 have hv1 : validT (intB z).data.toList = true := by rw [intB_list]; exact (validT_int z).2 hz
 rw [hv1] at hV
 have hC := Tryz.strings_CutPrefix (intB z) ⟨#[45]⟩
 rw [intB_list] at hC
 simp only [intT_trim, intT_has] at hC
 obtain ⟨d, hd⟩ : ∃ d : ByteArray, d = ⟨(natT z.natAbs).toArray⟩ := ⟨_, rfl⟩
 have hdl : d.data.toList = natT z.natAbs := by rw [hd]
 rw [← hd] at hC
 have hR := fun W => readM_any d (by rw [hdl]; exact natT_dig _) (by
  rw [hd]; show (natT z.natAbs).toArray.size ≤ 1000
  rw [List.size_toArray]
  have := (natT_len z.natAbs 200 (by decide)).2 hz
  omega) W
 rw [hdl, natT_val] at hR
 have hS := fun sv W hm => signed_any (decide (z < 0)) z.natAbs sv W (fits250 hz) hm
 rw [sgn_self] at hS
 have HV := Lib.hid hV
 have HC := Lib.hid hC
 have HR := Lib.hid hR
 have HS := Lib.hid hS
 generalize decide (z < 0) = sz at *
 generalize intB z = s at *
 clear hz hsz hV hv1 hC hd hdl hR hS
 go_enter Tryz.func154, Tryz.ntmps154
 go_wp2_with fail
 have hbx := box1_made w
 generalize World.alloc _ _ = W at hbx ⊢
 refine (HV.out W).mono ?_
 rintro e w1 ⟨rfl, rfl⟩
 go_wp2_with fail
 refine (HC.out w1).mono ?_
 rintro e w2 ⟨rfl, rfl⟩
 go_wp2_with fail
 refine (HR.out w2).mono ?_
 rintro e w3 ⟨⟨v3, rfl, hm3⟩, hB3⟩
 go_wp2_with fail
 refine (HS.out _ _ hm3).mono ?_
 rintro e w4 ⟨⟨v4, rfl, hn4⟩, hB4⟩
 obtain ⟨a9, c9, rfl, hr9, hc9⟩ := hn4
 have hbx2 := (hbx.via hB3).via hB4
 have hq1 := (cell_of_row w4 _ 0 _ _ _ hbx2.r).trans rfl
 have hq2 := (cell_of_row w4 _ 1 _ _ _ hbx2.r).trans rfl
 have hf1 := frozen_of_row w4 _ 0 _ _ hbx2.r
 have hf2 := frozen_of_row w4 _ 1 _ _ hbx2.r
 clear hbx hB3 hB4 hm3
 go_wp2_with fail
 refine bodyPost_ret (results_nt rfl _ _ (w.heap.size) _ _ rfl hbx2.res) rfl ?_
 exact ⟨⟨_, rfl, a9, c9, rfl, hr9, cells_res hc9 hbx2.r⟩, below_res hbx2.bel (by omega) _ _⟩
set_option maxRecDepth 100000 in
set_option maxHeartbeats 4000000 in
theorem read_no (s : ByteArray) (hs : (s.size : Int) ≤ 9223372036854775807) (hv : validT s.data.toList = false) (w : World) :
  Calls Tryz.prog 154 #[.string s] w fun e w' => e = .returned (.tuple #[.agg #[.bool false, .slice none 0 0], .bool false]) ∧ Below w.heap.size w w' := by
 have hV := valid_any s hs
 rw [hv] at hV
 have HV := Lib.hid hV
 clear hV hv
 go_enter Tryz.func154, Tryz.ntmps154
 go_wp2_with fail
 have hbx := box1_made w
 generalize World.alloc _ _ = W at hbx ⊢
 refine (HV.out W).mono ?_
 rintro e w4 ⟨rfl, rfl⟩
 have hq1 := (cell_of_row w4 _ 0 _ _ _ hbx.r).trans rfl
 have hq2 := (cell_of_row w4 _ 1 _ _ _ hbx.r).trans rfl
 have hf1 := frozen_of_row w4 _ 0 _ _ hbx.r
 have hf2 := frozen_of_row w4 _ 1 _ _ hbx.r
 go_wp2_with fail
 refine bodyPost_ret (results_nt rfl _ _ (w.heap.size) _ _ rfl hbx.res) rfl ?_
 exact ⟨rfl, below_res hbx.bel (by omega) _ _⟩
end Go.Proofs.YtofmjkgaaphnkaaGreatDoor
/- IntBoth: The contract of readBoth. -/
namespace Go.Proofs.YtofmjkgaaphnkaaGreatDoor
open Go.RowKit Putlog

/-- The boxes of two results. -/
structure BoxR (w W : World) : Prop where
 r : W.heap[w.heap.size]? = some (.cells #[.bool false, .slice none 0 0] 137 (0, 0))
 s : W.heap[w.heap.size + 1]? = some (.cells #[.bool false, .slice none 0 0] 137 (0, 0))
 bel : Below w.heap.size w W
theorem boxR_made (w : World) : BoxR w ((w.alloc (.cells #[.bool false, .slice none 0 0] 137)).alloc (.cells #[.bool false, .slice none 0 0] 137)) := by
 have h := box2_made w (.bool false) (.slice none 0 0)
 have h1 := heap_alloc_new w (.cells #[.bool false, .slice none 0 0] 137)
 exact ⟨heap_below (alloc_below _ _) h1, h.r, h.bel⟩
theorem BoxR.via {w W W' : World} (hB : Below W.heap.size W W') (h : BoxR w W) : BoxR w W' := ⟨heap_below hB h.r, heap_below hB h.s, belowVia hB h.bel⟩
theorem BoxR.res {w W : World} {r1 r2 s1 s2 : Value} (h : BoxR w W) :
  (Fin4 W w.heap.size (w.heap.size + 1) r1 r2 s1 s2).heap[w.heap.size]? = some (.cells #[r1, r2] 137 (0, 0)) ∧
  (Fin4 W w.heap.size (w.heap.size + 1) r1 r2 s1 s2).heap[w.heap.size + 1]? = some (.cells #[s1, s2] 137 (0, 0)) := by
 have h1 := heap_setCell_same W _ 0 _ _ r1 h.r
 have h2 := heap_setCell_same _ _ 1 _ _ r2 h1
 constructor
 ·unfold Fin4
  rw [heap_setCell_other _ _ _ _ (show w.heap.size ≠ w.heap.size + 1 by omega), heap_setCell_other _ _ _ _ (show w.heap.size ≠ w.heap.size + 1 by omega)]
  exact h2
 ·have h3 : ((W.setCell ⟨w.heap.size, 0, none⟩ r1).setCell ⟨w.heap.size, 1, none⟩ r2).heap[w.heap.size + 1]? = some (.cells #[.bool false, .slice none 0 0] 137 (0, 0)) := by
   rw [heap_setCell_other _ _ _ _ (show w.heap.size + 1 ≠ w.heap.size by omega), heap_setCell_other _ _ _ _ (show w.heap.size + 1 ≠ w.heap.size by omega)]
   exact h.s
  have h4 := heap_setCell_same _ _ 0 _ _ s1 h3
  exact heap_setCell_same _ _ 1 _ _ s2 h4
theorem BoxR.cells {w W : World} {r1 r2 s1 s2 : Value} {a : Option Addr} {l : List Int} (h : BoxR w W) (hc : CellsAt W a l) : CellsAt (Fin4 W w.heap.size (w.heap.size + 1) r1 r2 s1 s2) a l := by
 have h1 := cells_res (v := r1) (v2 := r2) hc h.r
 have h3 : ((W.setCell ⟨w.heap.size, 0, none⟩ r1).setCell ⟨w.heap.size, 1, none⟩ r2).heap[w.heap.size + 1]? = some (.cells #[.bool false, .slice none 0 0] 137 (0, 0)) := by
  rw [heap_setCell_other _ _ _ _ (show w.heap.size + 1 ≠ w.heap.size by omega), heap_setCell_other _ _ _ _ (show w.heap.size + 1 ≠ w.heap.size by omega)]
  exact h.s
 exact cells_res h1 h3
theorem BoxR.fin {w W : World} {r1 r2 s1 s2 : Value} (h : BoxR w W) : Below w.heap.size w (Fin4 W w.heap.size (w.heap.size + 1) r1 r2 s1 s2) := below_res (below_res h.bel (Nat.le_refl _) _ _) (by omega) _ _
theorem heap_cells {W : World} {p : Nat} {x y : Value} (h : W.heap[p]? = some (.cells #[x, y] 137 (0, 0))) : W.cell? ⟨p, 0, none⟩ = some x ∧ W.cell? ⟨p, 1, none⟩ = some y ∧ W.frozen? ⟨p, 0, none⟩ = false ∧ W.frozen? ⟨p, 1, none⟩ = false :=
 ⟨(cell_of_row W p 0 _ _ _ h).trans rfl, (cell_of_row W p 1 _ _ _ h).trans rfl, frozen_of_row W p 0 _ _ h, frozen_of_row W p 1 _ _ h⟩
set_option maxRecDepth 100000 in
set_option maxHeartbeats 4000000 in
theorem both_ok (x y : Int) (hx : Fits x) (hy : Fits y) (w : World) :
  Calls Tryz.prog 132 #[.string (intB x), .string (intB y)] w fun e w' => (∃ u v, e = .returned (.tuple #[u, v, .bool true]) ∧ NumAt w' u x ∧ NumAt w' v y) ∧ Below w.heap.size w w' := by
 have HX := Lib.hid (read_ok x hx)
 have HY := Lib.hid (read_ok y hy)
 generalize intB x = s at *
 generalize intB y = t at *
 clear hx hy
 go_enter Tryz.func132, Tryz.ntmps132
 go_wp2_with fail
 have hbx := boxR_made w
 generalize World.alloc (World.alloc _ _) _ = W at hbx ⊢
 refine (HX.out W).mono ?_
 rintro e w1 ⟨⟨v1, rfl, hn1⟩, hB1⟩
 obtain ⟨a8, c8, rfl, hr8, hc8⟩ := hn1
 have hbx := hbx.via hB1
 have hbx1 := hbx
 go_wp2_with fail
 have h7 := heap_alloc_new w1 (.cells #[.bool (decide (x < 0)), .slice a8 (digsL 10000 x.natAbs).length c8] 137)
 have b7 := alloc_below w1 (.cells #[.bool (decide (x < 0)), .slice a8 (digsL 10000 x.natAbs).length c8] 137)
 generalize w1.alloc (.cells #[.bool (decide (x < 0)), .slice a8 (digsL 10000 x.natAbs).length c8] 137) = w2 at *
 have hbx := hbx.via b7
 have hc8 := hc8.via b7
 have h7' := h7
 refine (HY.out w2).mono ?_
 rintro e w3 ⟨⟨v3, rfl, hn3⟩, hB3⟩
 obtain ⟨a9, c9, rfl, hr9, hc9⟩ := hn3
 have hbx := hbx.via hB3
 have hc8 := hc8.via hB3
 have h7 := heap_below hB3 h7
 go_wp2_with fail
 have h9 := heap_alloc_new w3 (.cells #[.bool (decide (y < 0)), .slice a9 (digsL 10000 y.natAbs).length c9] 137)
 have b9 := alloc_below w3 (.cells #[.bool (decide (y < 0)), .slice a9 (digsL 10000 y.natAbs).length c9] 137)
 generalize w3.alloc (.cells #[.bool (decide (y < 0)), .slice a9 (digsL 10000 y.natAbs).length c9] 137) = w4 at *
 have hbx := hbx.via b9
 have hc8 := hc8.via b9
 have hc9 := hc9.via b9
 have h7 := heap_below b9 h7
 have s1 : w.heap.size + 1 < w1.heap.size := by
  have := (Array.getElem?_eq_some_iff.1 hbx1.s).1; omega
 have s3 : w1.heap.size < w3.heap.size := by have := hB3.size; have := b7.size; have := lt_of_cell (heap_cells h7').1; omega
 obtain ⟨k1, k2, _, _⟩ := heap_cells h7
 obtain ⟨k3, k4, _, _⟩ := heap_cells h9
 obtain ⟨q1, q2, f1, f2⟩ := heap_cells hbx.r
 obtain ⟨q3, q4, f3, f4⟩ := heap_cells hbx.s
 have HBX := Lib.hid hbx
 have HC8 := Lib.hid hc8
 have HC9 := Lib.hid hc9
 have n1 : w1.heap.size ≠ w.heap.size := by omega
 have n2 : w1.heap.size ≠ w.heap.size + 1 := by omega
 have n3 : w3.heap.size ≠ w.heap.size := by omega
 have n4 : w3.heap.size ≠ w.heap.size + 1 := by omega
 generalize w1.heap.size = p7 at *
 generalize w3.heap.size = p9 at *
 clear hbx hc8 hc9 h7 h9 b9 b7 hB1 hB3 s1 s3 h7' hbx1
 go_region
 go_wp2_with fail
 refine bodyPost_ret (results_nnt rfl _ _ w.heap.size (w.heap.size + 1) _ _ _ _ rfl HBX.out.res.1 rfl HBX.out.res.2) rfl ?_
 exact ⟨⟨_, _, rfl, ⟨a8, c8, rfl, hr8, (HBX.out.cells HC8.out).via (Below.refl _ _).drew⟩, ⟨a9, c9, rfl, hr9, (HBX.out.cells HC9.out).via (Below.refl _ _).drew⟩⟩, HBX.out.fin.drew⟩
set_option maxRecDepth 100000 in
set_option maxHeartbeats 4000000 in
theorem both_no1 (s t : ByteArray) (hs : (s.size : Int) ≤ 9223372036854775807) (hv : validT s.data.toList = false) (w : World) :
  Calls Tryz.prog 132 #[.string s, .string t] w fun e w' => e = .returned (.tuple #[.agg #[.bool false, .slice none 0 0], .agg #[.bool false, .slice none 0 0], .bool false]) ∧ Below w.heap.size w w' := by
 have HX := Lib.hid (read_no s hs hv)
 clear hv
 go_enter Tryz.func132, Tryz.ntmps132
 go_wp2_with fail
 have hbx := boxR_made w
 generalize World.alloc (World.alloc _ _) _ = W at hbx ⊢
 refine (HX.out W).mono ?_
 rintro e w1 ⟨rfl, hB1⟩
 have hbx := hbx.via hB1
 have hbx := hbx.via (alloc_below w1 (.cells #[.bool false, .slice none 0 0] 137))
 obtain ⟨q1, q2, f1, f2⟩ := heap_cells hbx.r
 obtain ⟨q3, q4, f3, f4⟩ := heap_cells hbx.s
 have HBX := Lib.hid hbx
 clear hbx hB1
 go_wp2_with fail
 refine bodyPost_ret (results_nnt rfl _ _ w.heap.size (w.heap.size + 1) _ _ _ _ rfl HBX.out.res.1 rfl HBX.out.res.2) rfl ?_
 exact ⟨rfl, HBX.out.fin⟩
set_option maxRecDepth 100000 in
set_option maxHeartbeats 4000000 in
theorem both_no2 (x : Int) (t : ByteArray) (hx : Fits x) (ht : (t.size : Int) ≤ 9223372036854775807) (hv : validT t.data.toList = false) (w : World) :
  Calls Tryz.prog 132 #[.string (intB x), .string t] w fun e w' => e = .returned (.tuple #[.agg #[.bool false, .slice none 0 0], .agg #[.bool false, .slice none 0 0], .bool false]) ∧ Below w.heap.size w w' := by
 have HX := Lib.hid (read_ok x hx)
 have HY := Lib.hid (read_no t ht hv)
 generalize intB x = s at *
 clear hx hv
 go_enter Tryz.func132, Tryz.ntmps132
 go_wp2_with fail
 have hbx := boxR_made w
 generalize World.alloc (World.alloc _ _) _ = W at hbx ⊢
 refine (HX.out W).mono ?_
 rintro e w1 ⟨⟨v1, rfl, hn1⟩, hB1⟩
 obtain ⟨a8, c8, rfl, hr8, hc8⟩ := hn1
 have hbx := hbx.via hB1
 go_wp2_with fail
 have b7 := alloc_below w1 (.cells #[.bool (decide (x < 0)), .slice a8 (digsL 10000 x.natAbs).length c8] 137)
 generalize w1.alloc (.cells #[.bool (decide (x < 0)), .slice a8 (digsL 10000 x.natAbs).length c8] 137) = w2 at *
 have hbx := hbx.via b7
 refine (HY.out w2).mono ?_
 rintro e w3 ⟨rfl, hB3⟩
 have hbx := hbx.via hB3
 have hbx := hbx.via (alloc_below w3 (.cells #[.bool false, .slice none 0 0] 137))
 obtain ⟨q1, q2, f1, f2⟩ := heap_cells hbx.r
 obtain ⟨q3, q4, f3, f4⟩ := heap_cells hbx.s
 have HBX := Lib.hid hbx
 clear hbx hB1 hB3 b7 hc8 hr8
 go_wp2_with fail
 refine bodyPost_ret (results_nnt rfl _ _ w.heap.size (w.heap.size + 1) _ _ _ _ rfl HBX.out.res.1 rfl HBX.out.res.2) rfl ?_
 exact ⟨rfl, HBX.out.fin⟩
end Go.Proofs.YtofmjkgaaphnkaaGreatDoor
/- IntComb: The contract of combined, and of the functions that call it. -/
namespace Go.Proofs.YtofmjkgaaphnkaaGreatDoor
open Go.RowKit Putlog

theorem intB_small {z : Int} (h : z.natAbs < 10000 ^ 250) : (intB z).size ≤ 4 * 250 + 1 := intT_size (by rw [show (10000 : Nat) = 10 ^ 4 from rfl, ← Nat.pow_mul] at h; exact h) (by decide)
theorem validB (z : Int) (h : z.natAbs < 10000 ^ 250) (W : World) : Calls Tryz.prog 91 #[.string (intB z)] W fun e w' => e = .returned (.bool (decide (Fits z))) ∧ w' = W := by
 have h1 := intB_small h
 have h2 := valid_any (intB z) (by omega) W
 have h3 : validT (intB z).data.toList = decide (Fits z) := by
  rw [intB_list]
  by_cases hf : Fits z
  ·rw [(validT_int z).2 hf]; simp [hf]
  ·have : validT (intT z) = false := by rw [Bool.eq_false_iff]; exact fun k => hf ((validT_int z).1 k)
   rw [this]; simp [hf]
 rwa [h3] at h2
/-- The boxes of two numbers, and what is read of them. -/
theorem boxes_made {w : World} {x1 x2 y1 y2 : Value} : Below w.heap.size w ((w.alloc (.cells #[x1, x2] 137)).alloc (.cells #[y1, y2] 137)) ∧
  ((w.alloc (.cells #[x1, x2] 137)).alloc (.cells #[y1, y2] 137)).heap[w.heap.size]? = some (.cells #[x1, x2] 137 (0, 0)) ∧
  ((w.alloc (.cells #[x1, x2] 137)).alloc (.cells #[y1, y2] 137)).heap[w.heap.size + 1]? = some (.cells #[y1, y2] 137 (0, 0)) := by
 have h1 := heap_alloc_new w (.cells #[x1, x2] 137)
 have b1 := alloc_below w (.cells #[x1, x2] 137)
 have s1 := alloc_size w (.cells #[x1, x2] 137)
 generalize w.alloc (.cells #[x1, x2] 137) = w1 at *
 have h2 := heap_alloc_new w1 (.cells #[y1, y2] 137)
 rw [s1] at h2
 exact ⟨belowVia (alloc_below _ _) b1, heap_below (alloc_below _ _) h1, h2⟩
set_option maxRecDepth 100000 in
set_option maxHeartbeats 4000000 in
theorem comb_ok {g : Nat} (eg : ∀ args w, (callFunc g args).run Tryz.prog w = .ok (.enter g args) w) (x y z : Int) (hx : Fits x) (hy : Fits y) (hz : z.natAbs < 10000 ^ 250)
  (hop : ∀ u v W, NumAt W u x → NumAt W v y → Calls Tryz.prog g #[u, v] W fun e w' => (∃ r, e = .returned r ∧ NumAt w' r z) ∧ Below W.heap.size W w') (w : World) :
  Calls Tryz.prog 110 #[.string (intB x), .string (intB y), .func (.func g) #[] #[]] w (GivesInt (okS z) (okE z) w) := by
 have HB := Lib.hid (both_ok x y hx hy)
 have HT := Lib.hid (fun v W hv => ntext z hz v W hv)
 have HV := Lib.hid (validB z hz)
 have HO := Lib.hid hop
 generalize intB x = s at *
 generalize intB y = t at *
 have hOK : okS z = if Fits z then intB z else ⟨#[]⟩ := rfl
 have hOE : okE z = if Fits z then 0 else 30 := rfl
 generalize intB z = r at *
 clear hx hy hz hop
 by_cases hf : Fits z
 ·have hd : decide (Fits z) = true := by simp [hf]
  rw [hd] at HV
  rw [if_pos hf] at hOK hOE
  rw [hOK, hOE]
  clear hOK hOE hd hf
  go_enter Tryz.func110, Tryz.ntmps110
  go_wp2_with fail
  refine (HB.out w).mono ?_
  rintro e w1 ⟨⟨u, v, rfl, hu, hv⟩, hB1⟩
  have HU := Lib.hid hu
  have HVV := Lib.hid hv
  obtain ⟨a, ca, rfl, _, _⟩ := hu
  obtain ⟨b, cb, rfl, _, _⟩ := hv
  generalize (digsL 10000 x.natAbs).length = n at *
  generalize (digsL 10000 y.natAbs).length = m at *
  generalize decide (x < 0) = sx at *
  generalize decide (y < 0) = sy at *
  obtain ⟨hb, hc1, hc2⟩ := boxes_made (w := w1) (x1 := .bool sx) (x2 := .slice a n ca) (y1 := .bool sy) (y2 := .slice b m cb)
  obtain ⟨k1, k2, _, _⟩ := heap_cells hc1
  obtain ⟨k3, k4, _, _⟩ := heap_cells hc2
  have HU2 := Lib.hid (HU.out.via hb)
  have HV2 := Lib.hid (HVV.out.via hb)
  have HB2 := Lib.hid (belowVia hb hB1)
  clear hb hc1 hc2 HU HVV hB1
  go_wp2_with fail
  refine (HO.out _ _ _ HU2.out HV2.out).mono ?_
  rintro e w2 ⟨⟨rr, rfl, hn⟩, hB3⟩
  have HB3 := Lib.hid (belowVia hB3 HB2.out)
  clear hB3
  go_wp2_with fail
  refine (HT.out _ _ hn).mono ?_
  rintro e w3 ⟨rfl, hB4⟩
  go_wp2_with fail
  refine (HV.out w3).mono ?_
  rintro e w4 ⟨rfl, rfl⟩
  go_wp2_with fail
  go_ret2
  exact ⟨rfl, belowVia hB4 HB3.out⟩
 ·have hd : decide (Fits z) = false := by simp [hf]
  rw [hd] at HV
  rw [if_neg hf] at hOK hOE
  rw [hOK, hOE]
  clear hOK hOE hd hf
  go_enter Tryz.func110, Tryz.ntmps110
  go_wp2_with fail
  refine (HB.out w).mono ?_
  rintro e w1 ⟨⟨u, v, rfl, hu, hv⟩, hB1⟩
  have HU := Lib.hid hu
  have HVV := Lib.hid hv
  obtain ⟨a, ca, rfl, _, _⟩ := hu
  obtain ⟨b, cb, rfl, _, _⟩ := hv
  generalize (digsL 10000 x.natAbs).length = n at *
  generalize (digsL 10000 y.natAbs).length = m at *
  generalize decide (x < 0) = sx at *
  generalize decide (y < 0) = sy at *
  obtain ⟨hb, hc1, hc2⟩ := boxes_made (w := w1) (x1 := .bool sx) (x2 := .slice a n ca) (y1 := .bool sy) (y2 := .slice b m cb)
  obtain ⟨k1, k2, _, _⟩ := heap_cells hc1
  obtain ⟨k3, k4, _, _⟩ := heap_cells hc2
  have HU2 := Lib.hid (HU.out.via hb)
  have HV2 := Lib.hid (HVV.out.via hb)
  have HB2 := Lib.hid (belowVia hb hB1)
  clear hb hc1 hc2 HU HVV hB1
  go_wp2_with fail
  refine (HO.out _ _ _ HU2.out HV2.out).mono ?_
  rintro e w2 ⟨⟨rr, rfl, hn⟩, hB3⟩
  have HB3 := Lib.hid (belowVia hB3 HB2.out)
  clear hB3
  go_wp2_with fail
  refine (HT.out _ _ hn).mono ?_
  rintro e w3 ⟨rfl, hB4⟩
  go_wp2_with fail
  refine (HV.out w3).mono ?_
  rintro e w4 ⟨rfl, rfl⟩
  go_wp2_with fail
  go_ret2
  exact ⟨rfl, belowVia hB4 HB3.out⟩
set_option maxRecDepth 100000 in
set_option maxHeartbeats 4000000 in
theorem comb_no (s t : ByteArray) (f : Value) (w : World) (h : Calls Tryz.prog 132 #[.string s, .string t] w fun e w' => e = .returned (.tuple #[.agg #[.bool false, .slice none 0 0], .agg #[.bool false, .slice none 0 0], .bool false]) ∧ Below w.heap.size w w') :
  Calls Tryz.prog 110 #[.string s, .string t, f] w (GivesInt ⟨#[]⟩ 30 w) := by
 have HB := Lib.hid h
 clear h
 go_enter Tryz.func110, Tryz.ntmps110
 go_wp2_with fail
 refine HB.out.mono ?_
 rintro e w1 ⟨rfl, hB1⟩
 go_wp2_with fail
 go_ret2
 exact ⟨rfl, belowVia ((alloc_below _ _).alloc (by simp) _) hB1⟩
/-- What two texts are: two integers, or one of them is none. -/
theorem both_cases (s t : ByteArray) (hs : (s.size : Int) ≤ 9223372036854775807) (ht : (t.size : Int) ≤ 9223372036854775807) :
  (∃ x y, s = intB x ∧ t = intB y ∧ Fits x ∧ Fits y) ∨ (validT s.data.toList && validT t.data.toList) = false ∧ ∀ w, Calls Tryz.prog 132 #[.string s, .string t] w fun e w' => e = .returned (.tuple #[.agg #[.bool false, .slice none 0 0], .agg #[.bool false, .slice none 0 0], .bool false]) ∧ Below w.heap.size w w' := by
 have hback : ∀ s : ByteArray, validT s.data.toList = true → ∃ x, s = intB x ∧ Fits x := fun s h => by
  obtain ⟨x, h1, h2⟩ := validT_some h
  exact ⟨x, by show s = ⟨(intT x).toArray⟩; rw [← h1], h2⟩
 by_cases h1 : validT s.data.toList = true
 ·obtain ⟨x, rfl, hx⟩ := hback s h1
  by_cases h2 : validT t.data.toList = true
  ·obtain ⟨y, rfl, hy⟩ := hback t h2
   exact .inl ⟨x, y, rfl, rfl, hx, hy⟩
  ·have h2 := Bool.eq_false_iff.2 h2
   exact .inr ⟨by rw [h2, Bool.and_false], fun w => both_no2 x t hx ht h2 w⟩
 ·have h1 := Bool.eq_false_iff.2 h1
  exact .inr ⟨by rw [h1, Bool.false_and], fun w => both_no1 s t hs h1 w⟩
set_option maxRecDepth 100000 in
set_option maxHeartbeats 4000000 in
theorem add_any (s t x : ByteArray) (k : Int) (w : World) (h : Calls Tryz.prog 110 #[.string s, .string t, .func (.func 114) #[] #[]] w (GivesInt x k w)) :
  Calls Tryz.prog 86 #[.string s, .string t] w (GivesInt x k w) := by
 have H := Lib.hid h
 clear h
 go_enter Tryz.func86, Tryz.ntmps86
 go_wp2_with fail
 refine H.out.mono ?_
 rintro e w1 ⟨rfl, hB1⟩
 go_wp2_with fail
 go_ret2
 exact ⟨rfl, hB1⟩
set_option maxRecDepth 100000 in
set_option maxHeartbeats 4000000 in
theorem mul_any (s t x : ByteArray) (k : Int) (w : World) (h : Calls Tryz.prog 110 #[.string s, .string t, .func (.func 111) #[] #[]] w (GivesInt x k w)) :
  Calls Tryz.prog 80 #[.string s, .string t] w (GivesInt x k w) := by
 have H := Lib.hid h
 clear h
 go_enter Tryz.func80, Tryz.ntmps80
 go_wp2_with fail
 refine H.out.mono ?_
 rintro e w1 ⟨rfl, hB1⟩
 go_wp2_with fail
 go_ret2
 exact ⟨rfl, hB1⟩
set_option maxRecDepth 100000 in
set_option maxHeartbeats 4000000 in
theorem gcd_call (s t x : ByteArray) (k : Int) (w : World) (h : Calls Tryz.prog 110 #[.string s, .string t, .func (.func 129) #[] #[]] w (GivesInt x k w)) :
  Calls Tryz.prog 106 #[.string s, .string t] w (GivesInt x k w) := by
 have H := Lib.hid h
 clear h
 go_enter Tryz.func106, Tryz.ntmps106
 go_wp2_with fail
 refine H.out.mono ?_
 rintro e w1 ⟨rfl, hB1⟩
 go_wp2_with fail
 go_ret2
 exact ⟨rfl, hB1⟩
set_option maxRecDepth 100000 in
set_option maxHeartbeats 4000000 in
theorem gcd1_any (x y : Int) (hx : x.natAbs < 10000 ^ 250) (hy : y.natAbs < 10000 ^ 250) (u v : Value) (w : World) (hu : NumAt w u x) (hv : NumAt w v y) :
  Calls Tryz.prog 129 #[u, v] w fun e w' => (∃ r, e = .returned r ∧ NumAt w' r (Int.gcd x y : Nat)) ∧ Below w.heap.size w w' := by
 obtain ⟨a, ca, rfl, hra, hca⟩ := hu
 obtain ⟨b, cb, rfl, hrb, hcb⟩ := hv
 have hgb : Nat.gcd x.natAbs y.natAbs < 10000 ^ 250 := by
  rcases Nat.eq_zero_or_pos x.natAbs with h | h
  ·rw [h, Nat.gcd_zero_left]; exact hy
  ·exact Nat.lt_of_le_of_lt (Nat.le_of_dvd h (Nat.gcd_dvd_left _ _)) hx
 have HP := Lib.hid (fun W hu hv => gcd_any x.natAbs y.natAbs hx hy _ _ W (MagAt.via hu (mag_of_num hra hca)) (MagAt.via hv (mag_of_num hrb hcb)))
 have HS := Lib.hid (fun sv W hm => signed_any false (Nat.gcd x.natAbs y.natAbs) sv W hgb hm)
 have hz : sgn false (Nat.gcd x.natAbs y.natAbs) = (Int.gcd x y : Nat) := rfl
 obtain ⟨z, hzz⟩ : ∃ z : Int, z = (Int.gcd x y : Nat) := ⟨_, rfl⟩
 rw [hz, ← hzz] at HS
 rw [← hzz]
 generalize (digsL 10000 x.natAbs).length = n at *
 generalize (digsL 10000 y.natAbs).length = m at *
 generalize decide (x < 0) = sx at *
 generalize decide (y < 0) = sy at *
 clear hx hy hgb hz hzz
 go_enter Tryz.func129, Tryz.ntmps129
 go_wp2_with fail
 have hbx := box3_made w (.bool sx) (.slice a n ca) (.bool sy) (.slice b m cb)
 generalize World.alloc (World.alloc _ _) _ = W at hbx ⊢
 refine (HP.out W hbx.bel hbx.bel).mono ?_
 rintro e w1 ⟨⟨r1, rfl, hm1⟩, hB1⟩
 have hbx := hbx.via hB1
 go_wp2_with fail
 refine (HS.out _ _ hm1).mono ?_
 rintro e w2 ⟨⟨r2, rfl, hn2⟩, hB2⟩
 obtain ⟨a9, c9, rfl, hr9, hc9⟩ := hn2
 have hbx2 := hbx.via hB2
 obtain ⟨hq1, hq2, hf1, hf2⟩ := heap_cells hbx2.r
 clear hbx hB1 hB2
 go_wp2_with fail
 refine bodyPost_ret (results_n rfl _ _ (w.heap.size + 1 + 1) _ _ rfl hbx2.res) rfl ?_
 exact ⟨⟨_, rfl, a9, c9, rfl, hr9, cells_res hc9 hbx2.r⟩, below_res hbx2.bel (by omega) _ _⟩
end Go.Proofs.YtofmjkgaaphnkaaGreatDoor
/- IntExp: The contracts of the exported functions. -/
namespace Go.Proofs.YtofmjkgaaphnkaaGreatDoor
open Go.RowKit Putlog

theorem add_lt120 {x y : Int} (hx : x.natAbs < 10000 ^ 120) (hy : y.natAbs < 10000 ^ 120) : (x + y).natAbs < 10000 ^ 250 :=
 Nat.lt_of_lt_of_le (show _ < 10000 ^ 121 by rw [Nat.pow_succ]; omega) (Nat.pow_le_pow_right (by decide) (by decide))
theorem mul_lt120 {x y : Int} (hx : x.natAbs < 10000 ^ 120) (hy : y.natAbs < 10000 ^ 120) : (x * y).natAbs < 10000 ^ 250 := by rw [Int.natAbs_mul]; exact prod_lt hx hy
theorem gcd_fits {x y : Int} (hx : Fits x) (hy : Fits y) : Fits (Int.gcd x y : Nat) := by
 show (Nat.gcd x.natAbs y.natAbs : Int).natAbs < 10 ^ 200
 rw [Int.natAbs_natCast]
 rcases Nat.eq_zero_or_pos x.natAbs with h | h
 ·rw [h, Nat.gcd_zero_left]; exact hy
 ·exact Nat.lt_of_le_of_lt (Nat.le_of_dvd h (Nat.gcd_dvd_left _ _)) hx
theorem add_ok (x y : Int) (hx : Fits x) (hy : Fits y) (w : World) : Calls Tryz.prog 86 #[.string (intB x), .string (intB y)] w (GivesInt (okS (x + y)) (okE (x + y)) w) :=
 add_any _ _ _ _ w (comb_ok (enters_of Tryz.func114 (by kernel_rfl) rfl) x y (x + y) hx hy (add_lt120 (fits120 hx) (fits120 hy)) (fun u v W hu hv => nplus x y (fits120 hx) (fits120 hy) u v W hu hv) w)
theorem mul_ok (x y : Int) (hx : Fits x) (hy : Fits y) (w : World) : Calls Tryz.prog 80 #[.string (intB x), .string (intB y)] w (GivesInt (okS (x * y)) (okE (x * y)) w) :=
 mul_any _ _ _ _ w (comb_ok (enters_of Tryz.func111 (by kernel_rfl) rfl) x y (x * y) hx hy (mul_lt120 (fits120 hx) (fits120 hy)) (fun u v W hu hv => ntimes x y (fits120 hx) (fits120 hy) u v W hu hv) w)
theorem gcd_ok (x y : Int) (hx : Fits x) (hy : Fits y) (w : World) : Calls Tryz.prog 106 #[.string (intB x), .string (intB y)] w (GivesInt (intB (Int.gcd x y : Nat)) 0 w) := by
 have h := comb_ok (enters_of Tryz.func129 (by kernel_rfl) rfl) x y (Int.gcd x y : Nat) hx hy (fits250 (gcd_fits hx hy)) (fun u v W hu hv => gcd1_any x y (fits250 hx) (fits250 hy) u v W hu hv) w
 rw [okS_fits (gcd_fits hx hy), okE_fits (gcd_fits hx hy)] at h
 exact gcd_call _ _ _ _ w h
set_option maxRecDepth 100000 in
set_option maxHeartbeats 4000000 in
theorem div_no (s t : ByteArray) (w : World) (h : Calls Tryz.prog 132 #[.string s, .string t] w fun e w' => e = .returned (.tuple #[.agg #[.bool false, .slice none 0 0], .agg #[.bool false, .slice none 0 0], .bool false]) ∧ Below w.heap.size w w') :
  Calls Tryz.prog 107 #[.string s, .string t] w fun e w' => e = .returned (.tuple #[.string ⟨#[]⟩, .string ⟨#[]⟩, .int .i64 30]) ∧ Below w.heap.size w w' := by
 have HB := Lib.hid h
 clear h
 go_enter Tryz.func107, Tryz.ntmps107
 go_wp2_with fail
 refine HB.out.mono ?_
 rintro e w1 ⟨rfl, hB1⟩
 obtain ⟨hb, hc1, hc2⟩ := boxes_made (w := w1) (x1 := .bool false) (x2 := .slice none 0 0) (y1 := .bool false) (y2 := .slice none 0 0)
 obtain ⟨k1, k2, _, _⟩ := heap_cells hc1
 obtain ⟨k3, k4, _, _⟩ := heap_cells hc2
 clear hb hc1 hc2
 go_wp2_with fail
 go_ret3
 exact ⟨rfl, belowVia ((alloc_below _ _).alloc (by simp) _) hB1⟩
set_option maxRecDepth 100000 in
set_option maxHeartbeats 4000000 in
theorem div_zero (x : Int) (hx : Fits x) (w : World) :
  Calls Tryz.prog 107 #[.string (intB x), .string (intB 0)] w fun e w' => e = .returned (.tuple #[.string ⟨#[]⟩, .string ⟨#[]⟩, .int .i64 30]) ∧ Below w.heap.size w w' := by
 have h0 : Fits 0 := by show (0 : Int).natAbs < 10 ^ 200; exact Nat.pow_pos (by decide)
 have HB := Lib.hid (both_ok x 0 hx h0)
 have HZ := Lib.hid (fun v W hv => nzero 0 (fits250 h0) v W hv)
 rw [show decide ((0 : Int) = 0) = true from rfl] at HZ
 generalize intB x = s at *
 generalize intB 0 = t at *
 obtain ⟨y, hy⟩ : ∃ y : Int, y = 0 := ⟨_, rfl⟩
 rw [← hy] at HB HZ
 clear hx h0 hy
 go_enter Tryz.func107, Tryz.ntmps107
 go_wp2_with fail
 refine (HB.out w).mono ?_
 rintro e w1 ⟨⟨u, v, rfl, hu, hv⟩, hB1⟩
 have HVV := Lib.hid hv
 obtain ⟨a, ca, rfl, _, _⟩ := hu
 obtain ⟨b, cb, rfl, _, _⟩ := hv
 generalize (digsL 10000 x.natAbs).length = n at *
 generalize (digsL 10000 y.natAbs).length = m at *
 generalize decide (x < 0) = sx at *
 generalize decide (y < 0) = sy at *
 obtain ⟨hb, hc1, hc2⟩ := boxes_made (w := w1) (x1 := .bool sx) (x2 := .slice a n ca) (y1 := .bool sy) (y2 := .slice b m cb)
 obtain ⟨k1, k2, _, _⟩ := heap_cells hc1
 obtain ⟨k3, k4, _, _⟩ := heap_cells hc2
 have HV2 := Lib.hid (HVV.out.via hb)
 have HB2 := Lib.hid (belowVia hb hB1)
 clear hb hc1 hc2 HVV hB1
 go_wp2_with fail
 refine (HZ.out _ _ HV2.out).mono ?_
 rintro e w2 ⟨rfl, hB3⟩
 go_wp2_with fail
 go_ret3
 exact ⟨rfl, belowVia hB3 HB2.out⟩
set_option maxRecDepth 100000 in
set_option maxHeartbeats 4000000 in
theorem div_ok (x y : Int) (hx : Fits x) (hy : Fits y) (h0 : y ≠ 0) (w : World) :
  Calls Tryz.prog 107 #[.string (intB x), .string (intB y)] w fun e w' => e = .returned (.tuple #[.string (intB (x / y)), .string (intB (x % y)), .int .i64 0]) ∧ Below w.heap.size w w' := by
 have HB := Lib.hid (both_ok x y hx hy)
 have HZ := Lib.hid (fun v W hv => nzero y (fits250 hy) v W hv)
 rw [show decide (y = 0) = false by simp [h0]] at HZ
 have HD := Lib.hid (fun u v W hu hv => ndiv x y (fits120 hx) (fits120 hy) h0 u v W hu hv)
 obtain ⟨e1, e2, e3⟩ := ediv_spec x y h0
 have hrb : (x % y).natAbs < 10000 ^ 250 := by have := fits250 hy; omega
 have hqb : (x / y).natAbs < 10000 ^ 250 := Nat.lt_of_le_of_lt (Int.natAbs_ediv_le_natAbs x y) (fits250 hx)
 have HQ := Lib.hid (fun v W hv => ntext (x / y) hqb v W hv)
 have HR := Lib.hid (fun v W hv => ntext (x % y) hrb v W hv)
 generalize intB (x / y) = qs at *
 generalize intB (x % y) = rs at *
 generalize intB x = s at *
 generalize intB y = t at *
 generalize x / y = q at *
 generalize x % y = r at *
 clear hx hy h0 e1 e2 e3 hrb hqb
 go_enter Tryz.func107, Tryz.ntmps107
 go_wp2_with fail
 refine (HB.out w).mono ?_
 rintro e w1 ⟨⟨u, v, rfl, hu, hv⟩, hB1⟩
 have HU := Lib.hid hu
 have HVV := Lib.hid hv
 obtain ⟨a, ca, rfl, _, _⟩ := hu
 obtain ⟨b, cb, rfl, _, _⟩ := hv
 generalize (digsL 10000 x.natAbs).length = n at *
 generalize (digsL 10000 y.natAbs).length = m at *
 generalize decide (x < 0) = sx at *
 generalize decide (y < 0) = sy at *
 obtain ⟨hb, hc1, hc2⟩ := boxes_made (w := w1) (x1 := .bool sx) (x2 := .slice a n ca) (y1 := .bool sy) (y2 := .slice b m cb)
 have HC1 := Lib.hid hc1
 have HC2 := Lib.hid hc2
 obtain ⟨k1, k2, _, _⟩ := heap_cells hc1
 obtain ⟨k3, k4, _, _⟩ := heap_cells hc2
 have HU2 := Lib.hid (HU.out.via hb)
 have HV2 := Lib.hid (HVV.out.via hb)
 have HB2 := Lib.hid (belowVia hb hB1)
 clear hb hc1 hc2 HU HVV hB1
 go_wp2_with fail
 refine (HZ.out _ _ HV2.out).mono ?_
 rintro e w2 ⟨rfl, hB3⟩
 obtain ⟨k1', k2', _, _⟩ := heap_cells (heap_below hB3 HC1.out)
 obtain ⟨k3', k4', _, _⟩ := heap_cells (heap_below hB3 HC2.out)
 have HU3 := Lib.hid (HU2.out.via hB3)
 have HV3 := Lib.hid (HV2.out.via hB3)
 have HB3 := Lib.hid (belowVia hB3 HB2.out)
 clear hB3 k1 k2 k3 k4 HC1 HC2 HU2 HV2
 go_wp2_with fail
 refine (HD.out _ _ _ HU3.out HV3.out).mono ?_
 rintro e w3 ⟨⟨qv, rv, rfl, hq, hr⟩, hB4⟩
 have HQ4 := Lib.hid hq
 have HR4 := Lib.hid hr
 obtain ⟨a, ca, rfl, _, _⟩ := hq
 obtain ⟨b, cb, rfl, _, _⟩ := hr
 generalize (digsL 10000 q.natAbs).length = n2 at *
 generalize (digsL 10000 r.natAbs).length = m2 at *
 generalize decide (q < 0) = sq at *
 generalize decide (r < 0) = sr at *
 obtain ⟨hb, hc1, hc2⟩ := boxes_made (w := w3) (x1 := .bool sq) (x2 := .slice a n2 ca) (y1 := .bool sr) (y2 := .slice b m2 cb)
 obtain ⟨j1, j2, _, _⟩ := heap_cells hc1
 obtain ⟨j3, j4, _, _⟩ := heap_cells hc2
 have HQ5 := Lib.hid (HQ4.out.via hb)
 have HR5 := Lib.hid (HR4.out.via hb)
 have HB5 := Lib.hid (belowVia hb (belowVia hB4 HB3.out))
 clear hb hc1 hc2 HQ4 HR4 hB4 k1' k2' k3' k4' HU3 HV3
 go_wp2_with fail
 generalize World.alloc (World.alloc _ _) _ = w5 at *
 go_region_held3 (fun w' => w'.cell? ⟨w3.heap.size, 0, none⟩ = some (.bool sq) ∧ w'.cell? ⟨w3.heap.size, 1, none⟩ = some (.slice a n2 ca) ∧ w'.cell? ⟨w3.heap.size + 1, 0, none⟩ = some (.bool sr) ∧ w'.cell? ⟨w3.heap.size + 1, 1, none⟩ = some (.slice b m2 cb)) (first | exact ⟨j1, j2, j3, j4⟩ | exact ⟨keptBelow hC1 j1, keptBelow hC1 j2, keptBelow hC1 j3, keptBelow hC1 j4⟩ | exact ⟨keptBelow hC2 (keptBelow hC1 j1), keptBelow hC2 (keptBelow hC1 j2), keptBelow hC2 (keptBelow hC1 j3), keptBelow hC2 (keptBelow hC1 j4)⟩) (first
  | (go_at_call 135; (with_reducible refine (HQ.out _ _ ?_).mono ?_); exact NumAt.via (Below.refl _ _).drew HQ5.out; rintro e w6 ⟨rfl, hC1⟩)
  | (go_at_call 135; (with_reducible refine (HR.out _ _ ?_).mono ?_); exact NumAt.via hC1 (NumAt.via (Below.refl _ _).drew HR5.out); rintro e w7 ⟨rfl, hC2⟩))
 go_wp2_with fail
 go_ret3
 exact ⟨rfl, belowVia hC2 (belowVia (undrew hC1) HB5.out)⟩
end Go.Proofs.YtofmjkgaaphnkaaGreatDoor
/- IntConv: Plain mathematics of layer 3: what strconv writes and reads. Nothing of the program. -/
namespace Putlog
open Go

theorem natT_step {u : Nat} (h : 10 ≤ u) : natT u = natT (u / 10) ++ [chr10 (u % 10)] := by
 unfold natT
 rw [if_neg (by omega), if_neg (by omega), digsL_pos (by decide) (by omega)]
 simp
theorem decDigits_eq (k : Nat) : ∀ u, u ≤ k → Lib.decDigits u = natT u := by
 induction k with
 | zero =>
  intro u hu
  obtain rfl : u = 0 := by omega
  rw [Lib.decDigits]; rfl
 | succ k ih =>
  intro u hu
  rw [Lib.decDigits]
  split
  ·rename_i h
   rcases Nat.eq_zero_or_pos u with rfl | h0
   ·rfl
   ·unfold natT
    rw [if_neg (by omega), digsL_pos (by decide) h0, Nat.div_eq_of_lt h, digsL_zero, Nat.mod_eq_of_lt h]; rfl
  ·rw [ih (u / 10) (by omega), natT_step (u := u) (by omega)]; rfl
theorem itoa_eq (n : Int) : Lib.itoa n = intT n := by
 unfold Lib.itoa intT
 split
 ·rw [decDigits_eq _ _ (Nat.le_refl _)]
 ·rw [decDigits_eq _ _ (Nat.le_refl _), show n.toNat = n.natAbs by omega]
theorem natV_cons (c : UInt8) (r : List UInt8) : natV (c :: r) = natV r + 10 ^ r.length * (c.toNat - 48) := by
 have h : decT (c :: r) = decT r ++ [c.toNat - 48] := by simp [decT]
 have hl : (decT r).length = r.length := by simp [decT]
 rw [natV, h, leV_snoc, hl]; rfl
end Putlog
/- IntFrom: The contract of FromInt. -/
namespace Go.Proofs.YtofmjkgaaphnkaaGreatDoor
open Go.RowKit Putlog

/-- The table of the library that the conversion reads. -/
structure TabP (W : World) : Prop where
 tab : Lib.TabIs Tryz.prog W "internal/strconv.uint64pow10" .u64 Lib.pow10Tab
 size : 3 < W.heap.size
theorem gPow : Tryz.prog.globalNamed "internal/strconv.uint64pow10" = some 3 := by kernel_rfl
theorem TabP.via {w w' : World} (hB : Below w.heap.size w w') (h : TabP w) : TabP w' :=
 ⟨var?_below hB gPow h.size h.tab, Nat.lt_of_lt_of_le h.size hB.size⟩
set_option maxRecDepth 100000 in
set_option maxHeartbeats 2000000 in
theorem fromP_any (n : Int) (h0 : -9223372036854775808 ≤ n) (h1 : n ≤ 9223372036854775807) (w : World) (hT : TabP w) :
  Calls Tryz.prog 54 #[.int .i64 n] w fun e w' => e = .returned (.string (intB n)) ∧ Below w.heap.size w w' := by
 have h := Tryz.strconv_Itoa n h0 h1 w hT.tab
 rw [itoa_eq] at h
 have HI : Hid (Calls Tryz.prog 85 #[.int .i64 n] w fun e w' => e = .returned (.string (intB n)) ∧ Below w.heap.size w w') := h.mono fun e w' ⟨h1, k, os, h2⟩ => ⟨h1, by rw [h2]; exact Lib.below_grow _ _ (Nat.le_refl _) _ _⟩
 clear h h0 h1 hT
 go_enter Tryz.func54, Tryz.ntmps54
 go_wp2_with fail
 refine HI.out.mono ?_
 rintro e w1 ⟨rfl, hB⟩
 go_wp2_with fail
 go_ret
 exact ⟨rfl, hB⟩
end Go.Proofs.YtofmjkgaaphnkaaGreatDoor
/- LinTwos: The contracts of TrailingZeros64 and of twos. -/
namespace Go.Proofs.YtofmjkgaaphnkaaGreatDoor
open Go.RowKit Putlog

/-- The table of the library that the count of zeros reads. -/
structure TabB (W : World) : Prop where
 tab : ∀ j, j < 64 → W.cell? ⟨2, j, none⟩ = some (.int .u8 (Lib.deBruijn64tab.getD j 0))
 size : 2 < W.heap.size
theorem TabB.via {w w' : World} (hB : Below w.heap.size w w') (h : TabB w) : TabB w' :=
 ⟨fun j hj => keptBelow hB (h.tab j hj), Nat.lt_of_lt_of_le h.size hB.size⟩
theorem tz_key (x a : Nat) (hx : x < 18446744073709551616) (hx0 : x ≠ 0) (hlow : x &&& (18446744073709551616 - x) = a) :
  IntKind.u64.wrap (bits .and .u64 (x : Int) (IntKind.u64.wrap (-(x : Int))) * 285870213051353865) / 288230376151711744 = ((a * 285870213051353865 % 18446744073709551616 / 288230376151711744 : Nat) : Int) := by
 have e1 : IntKind.u64.wrap (-(x : Int)) = ((18446744073709551616 - x : Nat) : Int) := by rw [IntKind.wrap_u64]; omega
 rw [e1, bits_and_u64_nat x _ hx (by omega), hlow, IntKind.wrap_u64]
 omega
set_option maxRecDepth 100000 in
set_option maxHeartbeats 1000000 in
theorem tz_core (x k idx : Nat) (hx1 : ((x : Int) == 0) = false)
  (key : IntKind.u64.wrap (bits .and .u64 (x : Int) (IntKind.u64.wrap (-(x : Int))) * 285870213051353865) / 288230376151711744 = (idx : Int))
  (hi : idx < 64) (hk : k < 64) (W : World) (hc : W.cell? ⟨2, idx, none⟩ = some (.int .u8 k)) :
  Calls Tryz.prog 127 #[.int .u64 x] W fun e w' => e = .returned (.int .i64 k) ∧ w' = W := by
 go_enter Tryz.func127, Tryz.ntmps127
 go_wp2_with (simp only [key])
 go_ret
 exact ⟨rfl, rfl⟩
theorem tz_num (x : Nat) (hx : x < 18446744073709551616) (hx0 : x ≠ 0) (W : World) (hT : TabB W) :
  Calls Tryz.prog 127 #[.int .u64 x] W fun e w' => e = .returned (.int .i64 (Lib.ctz 64 x)) ∧ w' = W := by
 obtain ⟨hlow, hk⟩ := Lib.lowest_bit 64 x hx0 hx
 obtain ⟨hi, htab⟩ := Lib.deBruijn64_at _ hk
 have hc := hT.tab _ hi
 rw [htab] at hc
 exact tz_core x _ _ (by rw [beq_eq_false_iff_ne]; omega) (tz_key x _ hx hx0 hlow) hi hk W hc
/-- Which power of two divides a word, and nothing more. -/
theorem ctz_word (x : Nat) (h0 : x ≠ 0) (h : x < 18446744073709551616) : ∃ m, x = 2 ^ Lib.ctz 64 x * (2 * m + 1) ∧ Lib.ctz 64 x < 64 := by
 have h2 := Lib.ctzFrom_spec 64 x (by omega) h
 have e : Lib.ctz 64 x = Lib.ctzFrom 64 x := by simp [Lib.ctz, h0]
 rw [e]; exact h2
/-- How often 2 divides z: t times. -/
def Twos (z : Int) (t : Nat) : Prop := ∃ m : Int, z = 2 ^ t * (2 * m + 1)
theorem twos_of {z : Int} {k j : Nat} (hl : lowP z k = 0) (hj : j < 64) {m : Nat} (hw : wd z k = ((2 ^ j * (2 * m + 1) : Nat) : Int)) : Twos z (64 * k + j) := by
 have h1 := low_high z k
 rw [hl, Int.add_zero] at h1
 have h2 := Int.mul_ediv_add_emod (z / WB ^ k) WB
 have h3 : z / WB ^ k % WB = wd z k := rfl
 rw [h3, hw] at h2
 have h4 : WB = 2 ^ j * (2 * 2 ^ (63 - j)) := by
  rw [← Int.pow_succ', ← Int.pow_add, show j + (63 - j + 1) = 64 by omega]; rfl
 have h5 : ((2 ^ j * (2 * m + 1) : Nat) : Int) = 2 ^ j * (2 * (m : Int) + 1) := by simp
 rw [h5] at h2
 generalize z / WB ^ k = A at *
 generalize A / WB = B at *
 refine ⟨2 ^ (63 - j) * B + m, ?_⟩
 rw [Int.pow_add, two_wb]
 generalize WB ^ k = Z at *
 rw [h4] at h2
 generalize (2 : Int) ^ (63 - j) = q at *
 generalize (2 : Int) ^ j = p at *
 have e1 : p * (2 * q) * B + p * (2 * (m : Int) + 1) = p * (2 * (q * B + m) + 1) := by
  rw [Int.mul_assoc p, ← Int.mul_add]; congr 1; rw [Int.mul_assoc, Int.mul_add]; omega
 rw [h1, ← h2, e1, Int.mul_comm, Int.mul_assoc]
set_option maxRecDepth 100000 in
set_option maxHeartbeats 1000000 in
theorem twos_num (z : Int) (h0 : 0 < z) (h1 : z < WB ^ 10) (W : World) (hT : TabB W) :
  Calls Tryz.prog 102 #[.agg (numL z).toArray] W fun e w' => (∃ t : Nat, e = .returned (.int .i64 t) ∧ Twos z t ∧ t < 640) ∧ Below W.heap.size W w' := by
 have HZ := Lib.hid (And.intro h0 h1)
 have hb1 := alloc_belowL W (.cells (numL z).toArray 81)
 have g1 := heap_alloc_new W (.cells (numL z).toArray 81)
 have HT := Lib.hid (hT.via hb1)
 have H0 := Lib.hid (lowP_zero z)
 clear h0 h1 hT
 go_enter Tryz.func102, Tryz.ntmps102
 have HB := Lib.hid hb1
 have N1 : Hid (NumB W.heap.size (numL z) _) := Lib.hid g1
 clear hb1 g1
 go_upto_region 2 with fail
 change Code.wp _ _ _ _ (W.alloc (.cells (numL z).toArray 81))
 generalize W.alloc (.cells (numL z).toArray 81) = w0 at *
 go_loopw [3] (fun i wr => ∃ k : Nat, k < 10 ∧ i = .int .i64 k ∧ lowP z k = 0 ∧ wr = w0) (fun i _ => 10 - (intOf i).toNat)
 case atStart => exact ⟨0, by omega, rfl, H0.out, rfl⟩
 case round =>
  obtain ⟨k, hk, rfl, hl, hwr⟩ := hrel
  subst hwr
  have HL := Lib.hid hl
  clear hl
  have hk' : (k : Int) < 10 := by omega
  have c0 := N1.out.cell (numL_get z hk)
  have x0 := wd_lo z k
  have x1 := wd_hi z k
  by_cases hx : wd z k = 0
  ·have hl1 : lowP z (k + 1) = 0 := by rw [lowP_succ, HL.out, hx]; omega
   have hk9 : k + 1 < 10 := by
    rcases Nat.lt_or_ge (k + 1) 10 with h | h
    ·exact h
    ·obtain rfl : k = 9 := by omega
     exfalso
     have h2 : lowP z 10 = z := Int.emod_eq_of_lt (Int.le_of_lt HZ.out.1) HZ.out.2
     have h3 := HZ.out.1
     have : lowP z (9 + 1) = lowP z 10 := rfl
     omega
   have HL1 := Lib.hid hl1
   clear hl1
   rw [hx] at c0
   go_wp2_with fail
   exact ⟨⟨k + 1, hk9, by go_num, HL1.out, trivial⟩, by simp [intOf]; omega⟩
  ·obtain ⟨x, hxx⟩ : ∃ x : Nat, wd z k = x := ⟨(wd z k).toNat, by omega⟩
   have hxb : x < 18446744073709551616 := by omega
   have hxn : x ≠ 0 := by intro h; rw [h] at hxx; exact hx hxx
   obtain ⟨m, hm, hj⟩ := ctz_word x hxn hxb
   have htw := twos_of HL.out hj (m := m) (by rw [hxx]; rw [← hm])
   have HTZ := Lib.hid (fun w h => tz_num x hxb hxn w h)
   have hx1 : ((x : Int) == 0) = false := by rw [beq_eq_false_iff_ne]; omega
   rw [hxx] at c0
   generalize Lib.ctz 64 x = j at *
   have HTW := Lib.hid htw
   have hj' : (j : Int) < 64 := by omega
   clear hm htw hx x0 x1 hxx
   go_wp2_with fail
   refine (HTZ.out _ HT.out).mono ?_
   rintro e w2 ⟨rfl, rfl⟩
   go_wp2_with fail
   go_ret
   exact ⟨⟨64 * k + j, by simp; omega, HTW.out, by omega⟩, HB.out⟩
end Go.Proofs.YtofmjkgaaphnkaaGreatDoor
/- LinCardKit: What the cards of layer 6 share: the library's tables; opening slices of integers, and the numbers that determine a system. -/
namespace Go.Proofs.YtofmjkgaaphnkaaGreatDoor
open Go.ChangeShapes Go.WideShapes Go.ChangeAt Go.RowKit Go.Deep

theorem gPowType : (Tryz.prog.globals[3]?).map (·.type) = some 183 := by kernel_rfl
theorem cellsPow : Tryz.prog.cellsOf 183 = 20 := by kernel_rfl
theorem cellsU64 : Tryz.prog.cellsOf 79 = 1 := by kernel_rfl
theorem pow_eq {H : Type} : (Rows.laid_internal_strconv_uint64pow10 : DataW H) = Lib.tabData .u64 Lib.pow10Tab := rfl
theorem gBru : Tryz.prog.globalNamed "math/bits.deBruijn64tab" = some 2 := by kernel_rfl
theorem gBruType : (Tryz.prog.globals[2]?).map (·.type) = some 175 := by kernel_rfl
theorem cellsBru : Tryz.prog.cellsOf 175 = 64 := by kernel_rfl
theorem cellsU8 : Tryz.prog.cellsOf 5 = 1 := by kernel_rfl
def bruZ : List Int := Lib.deBruijn64tab.map fun n : Nat => (n : Int)
theorem bruZ_get (j : Nat) : bruZ.getD j 0 = ((Lib.deBruijn64tab.getD j 0 : Nat) : Int) := by
 unfold bruZ
 rw [List.getD_eq_getElem?_getD, List.getD_eq_getElem?_getD, List.getElem?_map]
 cases Lib.deBruijn64tab[j]? <;> rfl
theorem bru_eq {H : Type} : (Rows.laid_math_bits_deBruijn64tab : DataW H) = Lib.tabData .u8 bruZ := rfl
theorem tab_of_laid {W : World} (h : laidMetH Tryz.prog [("math/bits.deBruijn32tab", Rows.laid_math_bits_deBruijn32tab), ("math/bits.deBruijn64tab", Rows.laid_math_bits_deBruijn64tab), ("internal/strconv.uint64pow10", Rows.laid_internal_strconv_uint64pow10), ("unicode/utf8.acceptRanges", Rows.laid_unicode_utf8_acceptRanges), ("unicode/utf8.first", Rows.laid_unicode_utf8_first)] W) : TabP W ∧ TabB W := by
 have h1 : laidMet Tryz.prog [("math/bits.deBruijn32tab", Rows.laid_math_bits_deBruijn32tab), ("math/bits.deBruijn64tab", Rows.laid_math_bits_deBruijn64tab), ("internal/strconv.uint64pow10", Rows.laid_internal_strconv_uint64pow10), ("unicode/utf8.acceptRanges", Rows.laid_unicode_utf8_acceptRanges), ("unicode/utf8.first", Rows.laid_unicode_utf8_first)] W := h
 have h3 := h1.tail
 have h2 := h1.tail.tail
 rw [pow_eq] at h2
 rw [bru_eq] at h3
 have ht := Lib.tabIs_of_head gPow gPowType Tryz.underlying183 Tryz.underlying79 cellsU64 cellsPow h2
 have hb := Lib.tabIs_of_head gBru gBruType Tryz.underlying175 Tryz.underlying5 cellsU8 cellsBru h3
 exact ⟨⟨ht, lt_of_cell (ht.cell gPow 0 (by decide))⟩, ⟨fun j hj => by have := hb.cell gBru j hj; rw [bruZ_get] at this; exact this, lt_of_cell (hb.cell gBru 0 (by decide))⟩⟩
theorem plain_addr {w : World} {a : Addr} {v : Value} (h : w.cell? (a.add 0) = some v) : ∃ b o, a = ⟨b, o, none⟩ := by
 have h1 := World.cell?_spot h
 obtain ⟨b, o, s⟩ := a
 simp [Addr.add] at h1
 subst h1
 exact ⟨b, o, rfl⟩
theorem plain_add (b o i : Nat) : (⟨b, o, none⟩ : Addr).add i = ⟨b, o + i, none⟩ := by unfold Addr.add; split <;> simp_all
theorem i64_of {n : Int} (h : (Lit.int .i64 n).wf = true) : I64 n := bounds_i64 h
theorem cellsI : Tryz.prog.cellsOf 3 = 1 := by kernel_rfl
theorem cellsIs : Tryz.prog.cellsOf 22 = 1 := by kernel_rfl
/-- A slice of integers. -/
theorem open_intsF {H : Type} {enc : TypeId × Value → H} {w : World} {base : Nat} {held : Bool} {v : Value} {d : DataW H} {ps : List MemPlace} (hv : ∃ x n c, v = .slice x n c)
  (h : DataW.Trod enc Tryz.prog w base (fun _ => true) held 22 v d ps) : ∃ a l c, v = .slice a l.length c ∧ IntsFrom w a l ∧ l.length ≤ c ∧ (c : Int) ≤ 9223372036854775807 ∧ ∀ x ∈ l, I64 x := by
 obtain ⟨x1, len1, cap1, rfl⟩ := hv
 obtain ⟨fuel, hf⟩ := h
 rcases open_ints Tryz.underlying22 Tryz.underlying3 cellsI hf with ⟨hcs, _⟩ | ⟨a, len, cap, zs, hcs, _, hl, hm, hz, _, hcell, hwf⟩
 ·simp [Value.cells] at hcs
  obtain ⟨rfl, rfl, rfl⟩ := hcs
  exact ⟨none, [], 0, rfl, .inl rfl, Nat.le_refl _, by omega, fun x hx => by simp at hx⟩
 ·simp [Value.cells] at hcs
  obtain ⟨rfl, rfl, rfl⟩ := hcs
  rw [if_pos rfl] at hz
  unfold maxLen at hm
  have hlen : (zs.take len1).length = len1 := by rw [List.length_take]; omega
  refine ⟨some a, zs.take len1, cap1, by rw [hlen], ?_, by omega, by omega, fun x hx => i64_of (hwf x (List.mem_of_mem_take hx))⟩
  rcases Nat.eq_zero_or_pos len1 with h0 | h0
  ·left; exact List.eq_nil_of_length_eq_zero (by omega)
  ·obtain ⟨b, o, rfl⟩ := plain_addr (hcell 0 (by omega))
   refine .inr ⟨b, o, rfl, fun j hj => ?_⟩
   have h := hcell j (by omega)
   rw [plain_add] at h
   rw [h, List.getD_eq_getElem?_getD, List.getD_eq_getElem?_getD, List.getElem?_take_of_lt (by omega)]
set_option maxRecDepth 100000 in
theorem open_intsL {H : Type} {enc : TypeId × Value → H} {w : World} {b0 : Nat} {r : Reach} {base : Nat} {held : Bool} {v : Value} {d : DataW H} {ps : List MemPlace} (hval : Value.okWide Tryz.prog w r b0 22 v)
  (h : DataW.Trod enc Tryz.prog w base (fun _ => true) held 22 v d ps) : ∃ a l c, v = .slice a l.length c ∧ IntsFrom w a l ∧ l.length ≤ c ∧ (c : Int) ≤ 9223372036854775807 ∧ ∀ x ∈ l, I64 x := by
 obtain ⟨a, l, c, h1, h2, h3, h4, h5⟩ := open_intsF (okWide_slice Tryz.underlying22 hval) h
 exact ⟨a, l, c, h1, h2, h3, h4, h5⟩
set_option maxRecDepth 100000 in
/-- The numbers that determine a system. -/
theorem open_numbers {H : Type} {enc : TypeId × Value → H} {w : World} {b0 : Nat} {r : Reach} {base : Nat} {held : Bool} {v : Value} {d : DataW H} {ps : List MemPlace} (hval : Value.okWide Tryz.prog w r b0 24 v)
  (h : DataW.Trod enc Tryz.prog w base (fun _ => true) held 24 v d ps) : ∃ (x : NumX) (a b : Option Addr) (c d : Nat), v = .agg #[.int .i64 x.cols, .int .i64 x.rows, .slice a x.coefs.length c, .slice b x.hidden.length d, .int .i64 x.miss] ∧ NumM w x a b c d := by
 obtain ⟨cs, rfl, hsz⟩ := okWide_struct Tryz.underlying24 hval
 rw [show Tryz.prog.cellsOf 24 = 5 by kernel_rfl] at hsz
 obtain ⟨fuel, hf⟩ := h
 obtain ⟨xs, m, _, _, _, hn, hel⟩ := DataW.trod_struct Tryz.underlying24 hf
 obtain ⟨cs⟩ := cs
 match cs, hsz, xs, hn with
 | [c0, c1, c2, c3, c4], _, [y0, y1, y2, y3, y4], _ =>
  have e0 : DataW.trod enc Tryz.prog w base (fun _ => true) held m 3 (((Value.agg #[c0, c1, c2, c3, c4]).cells.toList.drop 0).take (Tryz.prog.cellsOf 3)) = some y0 := hel 0 _ rfl
  have e1 : DataW.trod enc Tryz.prog w base (fun _ => true) held m 3 (((Value.agg #[c0, c1, c2, c3, c4]).cells.toList.drop 1).take (Tryz.prog.cellsOf 3)) = some y1 := hel 1 _ rfl
  have e2 : DataW.trod enc Tryz.prog w base (fun _ => true) held m 22 (((Value.agg #[c0, c1, c2, c3, c4]).cells.toList.drop 2).take (Tryz.prog.cellsOf 22)) = some y2 := hel 2 _ rfl
  have e3 : DataW.trod enc Tryz.prog w base (fun _ => true) held m 22 (((Value.agg #[c0, c1, c2, c3, c4]).cells.toList.drop 3).take (Tryz.prog.cellsOf 22)) = some y3 := hel 3 _ rfl
  have e4 : DataW.trod enc Tryz.prog w base (fun _ => true) held m 3 (((Value.agg #[c0, c1, c2, c3, c4]).cells.toList.drop 4).take (Tryz.prog.cellsOf 3)) = some y4 := hel 4 _ rfl
  rw [cellsI] at e0 e1 e4
  rw [cellsIs] at e2 e3
  replace e2 : DataW.trod enc Tryz.prog w base (fun _ => true) held m 22 [c2] = some y2 := e2
  replace e3 : DataW.trod enc Tryz.prog w base (fun _ => true) held m 22 [c3] = some y3 := e3
  obtain ⟨z0, h0, _, w0⟩ := DataW.trod_int Tryz.underlying3 e0
  obtain ⟨z1, h1, _, w1⟩ := DataW.trod_int Tryz.underlying3 e1
  obtain ⟨z4, h4, _, w4⟩ := DataW.trod_int Tryz.underlying3 e4
  simp [Value.cells] at h0 h1 h4
  obtain ⟨x2, l2, k2, hx2⟩ := Go.Joins.slice_form Tryz.underlying22 e2
  obtain ⟨x3, l3, k3, hx3⟩ := Go.Joins.slice_form Tryz.underlying22 e3
  have hv2 : c2 = .slice x2 l2 k2 := by simpa using hx2
  have hv3 : c3 = .slice x3 l3 k3 := by simpa using hx3
  obtain ⟨a, la, ca, ha, p1, p2, p3, p4⟩ := open_intsF ⟨x2, l2, k2, hv2⟩ (show DataW.Trod enc Tryz.prog w base (fun _ => true) held 22 c2 y2.1 y2.2 from ⟨m, by rw [hv2] at e2 ⊢; exact e2⟩)
  obtain ⟨b, lb, cb, hb, q1, q2, q3, q4⟩ := open_intsF ⟨x3, l3, k3, hv3⟩ (show DataW.Trod enc Tryz.prog w base (fun _ => true) held 22 c3 y3.1 y3.2 from ⟨m, by rw [hv3] at e3 ⊢; exact e3⟩)
  exact ⟨⟨z0, z1, la, lb, z4⟩, a, b, ca, cb, by rw [h0, h1, ha, hb, h4], i64_of w0, i64_of w1, i64_of w4, p1, p2, p3, p4, q1, q2, q3, q4⟩
end Go.Proofs.YtofmjkgaaphnkaaGreatDoor
/- LinMade: The contract of the reference's Made. -/
namespace Go.Proofs.YtofmjkgaaphnkaaGreatDoor
open Go.RowKit Putlog

theorem info_sysN : (Tryz.prog.info? 27).map (·.size) = some 2 := by kernel_rfl
theorem inf_eqn : (Tryz.prog.info? 60).map (fun i => (i.zero, i.size, i.bytes)) = some (some (.agg #[.slice none 0 0, .int .i64 0]), 2, 32) := by kernel_rfl
def numV (x : NumX) (a b : Option Addr) (c d : Nat) : List Value := [.int .i64 x.cols, .int .i64 x.rows, .slice a x.coefs.length c, .slice b x.hidden.length d, .int .i64 x.miss]
def coefsV (x : NumX) (i j : Nat) : List Value := intsV ((List.range j).map (coefX x i))
/-- What Made has made under way: k rows; N: the blocks that stand. -/
structure MadeO (x : NumX) (a b : Option Addr) (c d : Nat) (W : World) (k N : Nat) (wr : World) : Prop where
 ex : ∃ L v, L.map RowX.p = (List.range k).map (rowX x) ∧ SysO (W.heap.size + 3) wr L v ∧ LtN N L v ∧ BlkB 27 (W.heap.size + 2) [.int .i64 (x.n : Nat), v] wr
 xb : BlkB 24 W.heap.size (numV x a b c d) wr
 res : BlkB 27 (W.heap.size + 1) [.int .i64 0, .slice none 0 0] wr
 below : Below W.heap.size W wr
 size : W.heap.size + 3 ≤ N
 here : N ≤ wr.heap.size
theorem MadeO.keep {x : NumX} {a b : Option Addr} {c d : Nat} {W : World} {k N : Nat} {w w' : World} (h : MadeO x a b c d W k N w) (hk : KeepN N w w') (hB : Below W.heap.size W w') (hs : w.heap.size ≤ w'.heap.size) : MadeO x a b c d W k N w' := by
 obtain ⟨L, v, h1, h2, h3, h4⟩ := h.ex
 have hz := h.size
 exact ⟨⟨L, v, h1, h2.keepN h3 hk, h3, hk.blk h4 (by omega)⟩, hk.blk h.xb (by omega), hk.blk h.res (by omega), hB, h.size, Nat.le_trans h.here hs⟩
theorem MadeO.via {x : NumX} {a b : Option Addr} {c d : Nat} {W : World} {k N : Nat} {w w' : World} (h : MadeO x a b c d W k N w) (hB : Below w.heap.size w w') : MadeO x a b c d W k N w' := h.keep (KeepN.below hB h.here) (belowVia hB h.below) hB.size
theorem MadeO.set {x : NumX} {a b : Option Addr} {c d : Nat} {W : World} {k N : Nat} {w : World} (h : MadeO x a b c d W k N w) {p : Nat} (hp : N ≤ p) (i : Nat) (v : Value) : MadeO x a b c d W k N (w.setCell ⟨p, i, none⟩ v) :=
 h.keep (KeepN.set w hp i v) (h.below.setCell (p := ⟨p, i, none⟩) (by have := h.size; show W.heap.size ≤ p; omega) v) (by rw [World.size_setCell]; exact Nat.le_refl _)
theorem MadeO.grown {x : NumX} {a b : Option Addr} {c d : Nat} {W : World} {k N : Nat} {w w' : World} (h : MadeO x a b c d W k N w) {o : Option Nat} (hg : w.grownBy w' o) (ho : ∀ g, o = some g → N ≤ g) : MadeO x a b c d W k N w' :=
 h.keep (KeepN.grown hg h.here ho) (h.below.grown hg (Nat.le_trans (by have := h.size; omega) h.here) (fun g e => by have := ho g e; have := h.size; omega)) hg.size
theorem MadeO.top {x : NumX} {a b : Option Addr} {c d : Nat} {W : World} {k N M : Nat} {w : World} (h : MadeO x a b c d W k N w) (hN : N ≤ M) (hM : M ≤ w.heap.size) : MadeO x a b c d W k M w := by
 obtain ⟨L, v, h1, h2, h3, h4⟩ := h.ex
 exact ⟨⟨L, v, h1, h2, ⟨fun k e => by have := h3.1 k e; omega, fun r hr k e => by have := h3.2 r hr k e; omega⟩, h4⟩, h.xb, h.res, h.below, by have := h.size; omega, hM⟩
theorem owns_belowR {w w' : World} {base e size n : Nat} {v : Value} {xs : List Value} (h : w.ownsRow base e size v n xs) (hB : Below w.heap.size w w') : w'.ownsRow base e size v n xs := own_keep h (fun k hk => hB.block k (own_lt h k hk).2)
theorem BlkB.other {t : TypeId} {p q i : Nat} {l : List Value} {v : Value} {w : World} (h : BlkB t p l w) (hpq : p ≠ q) : BlkB t p l (w.setCell ⟨q, i, none⟩ v) := (heap_setCell_other _ _ _ _ (by show p ≠ q; exact hpq)).trans h
theorem news_two (w : World) (u z : Value) (t : TypeId) : ∀ j y, [u, z][j]? = some y → (w.alloc (.cells #[u, z] t)).cell? ((⟨w.heap.size, 0, none⟩ : Addr).add j) = some y
 | 0, y, h => by
  simp at h; subst h
  exact (cell_of_row _ w.heap.size 0 _ t (0, 0) (heap_alloc_new w _)).trans rfl
 | 1, y, h => by
  simp at h; subst h
  exact (cell_of_row _ w.heap.size 1 _ t (0, 0) (heap_alloc_new w _)).trans rfl
 | j + 2, y, h => by simp at h
theorem one_two (a : Option Addr) (n c : Nat) (z : Int) : ∀ u ∈ [Value.slice a n c, .int .i64 z], u.oneCell' = true := by intro u hu; simp at hu; rcases hu with rfl | rfl <;> rfl
theorem coefsV_snoc (x : NumX) (i j : Nat) : coefsV x i (j + 1) = coefsV x i j ++ [.int .i64 (coefX x i j)] := by unfold coefsV intsV; rw [List.range_succ, List.map_append, List.map_append]; rfl
theorem idx_facts {k n j : Nat} (hk : k ≤ 5) (hn : n ≤ 8) (hj : j < n) : ∃ q t : Nat, t = k * n + j ∧ wrap64 ((k : Int) * (n : Int)) = (q : Nat) ∧ wrap64 ((q : Int) + (j : Int)) = (t : Nat) ∧ (t : Int) ≤ 1000000 ∧ (j : Int) ≤ 1000000 := by
 have hqb : k * n ≤ 40 := Nat.mul_le_mul hk hn
 have hqi : ((k * n : Nat) : Int) = (k : Int) * (n : Int) := Int.natCast_mul _ _
 refine ⟨k * n, k * n + j, rfl, ?_, ?_, by omega, by omega⟩
 ·rw [← hqi]; unfold wrap64; omega
 ·unfold wrap64; omega
theorem col_facts (x : NumX) (k j : Nat) {ac ah : Int} (hj : j < 8) (h1 : coefX x k j = pkN ac 19 - 9) (h2 : hidX x j = pkN ah 6) : ∃ pr, sumX x k (j + 1) = sumX x k j + pr ∧ wrap64 (pkN ac 19 - 9) = coefX x k j ∧ wrap64 (coefX x k j * pkN ah 6) = pr ∧ IntKind.i64.wrap (coefX x k j * pkN ah 6) = pr ∧ IntKind.i64.wrap (sumX x k j + pr) = sumX x k j + pr ∧ wrap64 (sumX x k j + pr) = sumX x k j + pr := by
 obtain ⟨c0, c1⟩ := coefX_bounds x k j
 obtain ⟨g0, g1⟩ := hidX_bounds x j
 obtain ⟨p0, p1⟩ := mul_95 c0 c1 g0 g1
 obtain ⟨s0, s1⟩ := sumX_bounds x k j
 refine ⟨coefX x k j * hidX x j, rfl, ?_, ?_, ?_, ?_, ?_⟩
 ·rw [← h1]; unfold wrap64; omega
 ·rw [← h2]; unfold wrap64; omega
 ·rw [← h2, IntKind.wrap_i64]; omega
 ·rw [IntKind.wrap_i64]; omega
 ·unfold wrap64; omega
theorem off_facts (x : NumX) (k : Nat) {ms : Int} (h : ms = x.miss) (hm : I64 ms) : IntKind.i64.wrap (ms.tdiv 3) = ms.tdiv 3 ∧ wrap64 (ms.tdiv 3) = ms.tdiv 3 ∧ IntKind.i64.wrap (ms.tdiv 30) = ms.tdiv 30 ∧ wrap64 (ms.tdiv 30) = ms.tdiv 30 ∧ (missX x = false → offX x k = 0) ∧
  (((k : Int) == pkN (ms.tdiv 3) x.m) = false → offX x k = 0) ∧ (missX x = true → ((k : Int) == pkN (ms.tdiv 3) x.m) = true → offX x k = pkN (ms.tdiv 30) 41 - 20) := by
 have h3 := tdiv_ok (k := 3) (by decide) hm
 have h30 := tdiv_ok (k := 30) (by decide) hm
 unfold I64 at h3 h30
 subst h
 refine ⟨by rw [IntKind.wrap_i64]; omega, by unfold wrap64; omega, by rw [IntKind.wrap_i64]; omega, by unfold wrap64; omega, fun h => ?_, fun h => ?_, fun h h' => ?_⟩
 ·unfold offX; rw [if_neg (by simp [h])]
 ·unfold offX; rw [if_neg]; rintro ⟨_, e⟩; simp [e] at h
 ·unfold offX; rw [if_pos ⟨h, by simpa using h'⟩]
theorem val_facts (x : NumX) (k : Nat) {q : Int} (hq : 0 ≤ q ∧ q < 41) (h : offX x k = q - 20) : IntKind.i64.wrap (sumX x k x.n + q) = sumX x k x.n + q ∧ wrap64 (sumX x k x.n + q) = sumX x k x.n + q ∧ IntKind.i64.wrap (sumX x k x.n + q - 20) = sumX x k x.n + offX x k ∧ wrap64 (sumX x k x.n + q - 20) = sumX x k x.n + offX x k := by
 have h1 := sumX_bounds x k x.n
 have h2 := x.n_bounds
 refine ⟨by rw [IntKind.wrap_i64]; omega, by unfold wrap64; omega, by rw [IntKind.wrap_i64]; omega, by unfold wrap64; omega⟩
/-- The row is added. -/
theorem MadeO.push {x : NumX} {a b : Option Addr} {c d : Nat} {W w w9 : World} {k rb n : Nat} {vr : Value} {o : Obj} (h : MadeO x a b c d W k rb w) (hr : w.ownsRow (rb + 1) 3 1 vr n (coefsV x k n)) (hn : n = x.n) {L : List RowX} {v v' : Value}
  (hL : L.map RowX.p = (List.range k).map (rowX x)) (hO : SysO (W.heap.size + 3) w L v) (hlt : LtN rb L v)
  (hown : w9.ownsRow (W.heap.size + 3) 60 2 v' (L.length + 1) (rowsU L ++ [vr, .int .i64 (sumX x k n + offX x k)])) (hg : (w.alloc o).grownBy w9 v.ownBlock) :
  MadeO x a b c d W (k + 1) w9.heap.size (w9.setCell ⟨W.heap.size + 2, 1, none⟩ v') := by
 have hal := alloc_belowL w o
 have hz := h.size
 have hz2 := h.here
 have hvb : ∀ g, v.ownBlock = some g → W.heap.size + 3 ≤ g ∧ g < rb := fun g e => ⟨(own_lt hO.top g e).1, hlt.1 g e⟩
 have hk0 : KeepN (W.heap.size + 3) w w9 := (KeepN.below hal (by omega)).trans (KeepN.grown hg (by have := hal.size; omega) (fun g e => (hvb g e).1))
 have hB9 : Below W.heap.size W w9 := (belowVia hal h.below).grown hg (by have := hal.size; omega) (fun g e => by have := hvb g e; omega)
 have hs9 : w.heap.size ≤ w9.heap.size := Nat.le_trans hal.size hg.size
 obtain ⟨L0, v0, e1, e2, e3, e4⟩ := h.ex
 obtain ⟨ra, rc, f1, f2, f3, f4, f5⟩ := owns_ints (by simp : n = ((List.range n).map (coefX x k)).length) hr
 have hR : hO = hO := rfl
 obtain ⟨r, hr1, hr2, hr3⟩ : ∃ r : RowX, r.v = vr ∧ r.coef = (List.range n).map (coefX x k) ∧ r.val = sumX x k n + offX x k := ⟨⟨(List.range n).map (coefX x k), sumX x k n + offX x k, ra, rc⟩, by unfold RowX.v; rw [f1]; simp, rfl, rfl⟩
 have hrl : r.coef.length = n := by rw [hr2]; simp
 have hp : r.p = rowX x k := by unfold RowX.p rowX; rw [hr2, hr3, hn]
 have hre : rowU r = [vr, .int .i64 (sumX x k n + offX x k)] := by unfold rowU; rw [hr1, hr3]
 have hro : (w.alloc o).ownsRow (rb + 1) 3 1 r.v r.coef.length (intsV r.coef) := by rw [hr1, hrl, hr2]; exact hr.alloc o
 have hS := (hO.via hal).push (r := r) (own_base hro (by omega)) (fun q hq g e1 e2 => by
  have := hlt.2 q hq g e1
  have := (own_lt hro g e2).1
  omega) (by rw [hre]; exact hown) hg
 refine ⟨⟨L ++ [r], v', by rw [List.map_append, hL, List.range_succ, List.map_append]; simp [hp], ?_, ?_, ?_⟩, ?_, ?_, hB9.setCell (p := ⟨W.heap.size + 2, 1, none⟩) (by show W.heap.size ≤ W.heap.size + 2; omega) v', by omega, by rw [World.size_setCell]; exact Nat.le_refl _⟩
 ·exact hS.keep (fun g e => heap_setCell_other _ _ _ _ (by have := (own_lt hS.top g e).1; show g ≠ W.heap.size + 2; omega)) (fun q hq g e => heap_setCell_other _ _ _ _ (by have := (own_lt (hS.rows q hq) g e).1; show g ≠ W.heap.size + 2; omega))
 ·exact hS.lt
 ·have h9 := hk0.blk e4 (by omega)
  exact h9.set 1 v'
 ·exact ((hk0.blk h.xb (by omega)) : BlkB _ _ _ w9) |> fun hb => (heap_setCell_other _ _ _ _ (by show W.heap.size ≠ W.heap.size + 2; omega)).trans hb
 ·exact ((hk0.blk h.res (by omega)) : BlkB _ _ _ w9) |> fun hb => (heap_setCell_other _ _ _ _ (by show W.heap.size + 1 ≠ W.heap.size + 2; omega)).trans hb
set_option maxRecDepth 100000 in
set_option maxHeartbeats 8000000 in
theorem made_c (x : NumX) (a b : Option Addr) (c d : Nat) (W : World) (h : NumM W x a b c d) :
  Calls Tryz.prog 11 #[.agg #[.int .i64 x.cols, .int .i64 x.rows, .slice a x.coefs.length c, .slice b x.hidden.length d, .int .i64 x.miss]] W fun e w' => (∃ L a' c', e = .returned (.agg #[.int .i64 (x.n : Nat), .slice a' x.m c']) ∧ L.map RowX.p = (madeS x).rows ∧ SysO W.heap.size w' L (.slice a' x.m c') ∧ SysM w' (madeS x) a' c') ∧ Below W.heap.size W w' := by
 have HNM := Lib.hid h
 have HP1 := Lib.hid (fun w => rpick_any x.cols 8 h.cols.1 h.cols.2 (by decide) (by decide) w)
 have HP2 := Lib.hid (fun w => rpick_any x.rows 5 h.rows.1 h.rows.2 (by decide) (by decide) w)
 have HMS := Lib.hid (fun w => misses_c x a b c d w h.miss)
 obtain ⟨n, hn⟩ : ∃ n, n = x.n := ⟨_, rfl⟩
 obtain ⟨m, hm⟩ : ∃ m, m = x.m := ⟨_, rfl⟩
 have hn1 := x.n_bounds
 have hm1 := x.m_bounds
 rw [← hn] at hn1 ⊢
 rw [← hm] at hm1 ⊢
 obtain ⟨p1, hp1⟩ : ∃ p, p = pkN x.cols 8 := ⟨_, rfl⟩
 obtain ⟨p2, hp2⟩ : ∃ p, p = pkN x.rows 5 := ⟨_, rfl⟩
 rw [← hp1] at HP1
 rw [← hp2] at HP2
 have hw1 : IntKind.i64.wrap (1 + p1) = (n : Nat) := by
  have := pkN_bounds x.cols (n := 8) (by decide)
  rw [IntKind.wrap_i64, hn]; unfold NumX.n; omega
 have hw2 : IntKind.i64.wrap (1 + p2) = (m : Nat) := by
  have := pkN_bounds x.rows (n := 5) (by decide)
  rw [IntKind.wrap_i64, hm]; unfold NumX.m; omega
 have HNN := Lib.hid hn
 have HMM := Lib.hid hm
 obtain ⟨hn1, hn2⟩ := hn1
 obtain ⟨hm1, hm2⟩ := hm1
 clear h hp1 hp2 hn hm
 have x1 := alloc_belowL W (.cells #[.int .i64 x.cols, .int .i64 x.rows, .slice a x.coefs.length c, .slice b x.hidden.length d, .int .i64 x.miss] 24)
 have y1 : BlkB 24 W.heap.size (numV x a b c d) (W.alloc (.cells #[.int .i64 x.cols, .int .i64 x.rows, .slice a x.coefs.length c, .slice b x.hidden.length d, .int .i64 x.miss] 24)) := heap_alloc_new W _
 have z1 : (W.alloc (.cells #[.int .i64 x.cols, .int .i64 x.rows, .slice a x.coefs.length c, .slice b x.hidden.length d, .int .i64 x.miss] 24)).heap.size = W.heap.size + 1 := by simp
 obtain ⟨ms, hms⟩ : ∃ ms, ms = x.miss := ⟨_, rfl⟩
 obtain ⟨lc, hlc⟩ : ∃ lc, lc = x.coefs.length := ⟨_, rfl⟩
 obtain ⟨lh, hlh⟩ : ∃ lh, lh = x.hidden.length := ⟨_, rfl⟩
 obtain ⟨xc, hxc⟩ : ∃ xc, xc = x.cols := ⟨_, rfl⟩
 obtain ⟨xr, hxr⟩ : ∃ xr, xr = x.rows := ⟨_, rfl⟩
 have HVAL : Hid (numV x a b c d = [.int .i64 xc, .int .i64 xr, .slice a lc c, .slice b lh d, .int .i64 ms]) := Lib.hid (by unfold numV; rw [hms, hlc, hlh, hxc, hxr])
 rw [← hms, ← hlc, ← hlh, ← hxc, ← hxr] at x1 y1 z1 ⊢
 rw [← hms, ← hlc, ← hlh, ← hxc, ← hxr] at HMS
 rw [← hxc] at HP1
 rw [← hxr] at HP2
 have HLC := Lib.hid hlc
 have HLH := Lib.hid hlh
 have HMI := Lib.hid hms
 clear hms hlc hlh hxc hxr
 go_enter Tryz.func11, Tryz.ntmps11
 go_wp2_with fail
 have y2 : BlkB 27 (W.heap.size + 1) [.int .i64 0, .slice none 0 0] ((W.alloc (.cells #[.int .i64 xc, .int .i64 xr, .slice a lc c, .slice b lh d, .int .i64 ms] 24)).alloc (.cells #[.int .i64 0, .slice none 0 0] 27)) := by
  rw [← z1]; exact heap_alloc_new _ _
 have x2 := alloc_belowL (W.alloc (.cells #[.int .i64 xc, .int .i64 xr, .slice a lc c, .slice b lh d, .int .i64 ms] 24)) (.cells #[.int .i64 0, .slice none 0 0] 27)
 have y1 := y1.via x2
 have x2 := belowVia x2 x1
 have z2 : ((W.alloc (.cells #[.int .i64 xc, .int .i64 xr, .slice a lc c, .slice b lh d, .int .i64 ms] 24)).alloc (.cells #[.int .i64 0, .slice none 0 0] 27)).heap.size = W.heap.size + 2 := by simp
 clear x1 z1
 generalize (W.alloc (.cells #[.int .i64 xc, .int .i64 xr, .slice a lc c, .slice b lh d, .int .i64 ms] 24)).alloc (.cells #[.int .i64 0, .slice none 0 0] 27) = w2 at *
 have c1 := y1.cell (i := 1) (by rw [HVAL.out]; rfl : _ = some (.int .i64 xr))
 refine (HP1.out _).mono ?_
 rintro e w3 ⟨rfl, rfl⟩
 clear HP1
 go_wp2_with fail
 refine (HP2.out _).mono ?_
 rintro e w3 ⟨rfl, rfl⟩
 clear HP2 c1
 have x3 := alloc_belowL w2 (.cells #[.int .i64 n, .slice none 0 0] 27)
 have y3 : BlkB 27 (W.heap.size + 2) [.int .i64 n, .slice none 0 0] (w2.alloc (.cells #[.int .i64 n, .slice none 0 0] 27)) := by
  rw [← z2]; exact heap_alloc_new _ _
 have z3 : (w2.alloc (.cells #[.int .i64 n, .slice none 0 0] 27)).heap.size = W.heap.size + 3 := by rw [alloc_sizeL, z2]
 have HM : Hid (MadeO x a b c d W 0 (W.heap.size + 3) (w2.alloc (.cells #[.int .i64 n, .slice none 0 0] 27))) :=
  Lib.hid ⟨⟨[], .slice none 0 0, rfl, SysO.nil _ _, ⟨fun k e => (by cases e), fun r hr => (by simp at hr)⟩, (by rw [← HNN.out]; exact y3)⟩, y1.via x3, y2.via x3, belowVia x3 x2, Nat.le_refl _, by rw [z3]; exact Nat.le_refl _⟩
 clear x2 x3 y1 y2 y3 z2 z3
 go_wp2_with fail
 generalize w2.alloc (.cells #[.int .i64 n, .slice none 0 0] 27) = w3 at *
 go_loopw [5] (fun i wr => ∃ k N : Nat, k ≤ m ∧ i = .int .i64 k ∧ MadeO x a b c d W k N wr) (fun i _ => m - (intOf i).toNat)
 case atStart => exact ⟨0, _, Nat.zero_le _, rfl, HM.out⟩
 case round =>
  clear HM
  obtain ⟨k, N, hk, rfl, hm⟩ := hrel
  have HM := Lib.hid (hm.top hm.here (Nat.le_refl _))
  clear hm
  by_cases hlt : k < m
  ·have hlt' : (k : Int) < m := by omega
   have HI1 := Lib.hid HM.out.below
   obtain ⟨rb, hrb⟩ : ∃ rb, rb = wr.heap.size := ⟨_, rfl⟩
   have yr : BlkB 60 rb [.slice none 0 0, .int .i64 0] (wr.alloc (.cells #[.slice none 0 0, .int .i64 0] 60)) := by
    rw [hrb]; exact heap_alloc_new _ _
   have zr : (wr.alloc (.cells #[.slice none 0 0, .int .i64 0] 60)).heap.size = rb + 1 := by rw [alloc_sizeL, hrb]
   have hm := HM.out.via (alloc_belowL wr (.cells #[.slice none 0 0, .int .i64 0] 60))
   rw [← hrb] at hm
   have HM := Lib.hid hm
   have HYR := Lib.hid yr
   have HZR : Hid (rb + 1 ≤ (wr.alloc (.cells #[.slice none 0 0, .int .i64 0] 60)).heap.size) := Lib.hid (Nat.le_of_eq zr.symm)
   clear hm yr zr HI1
   go_wp2_with fail
   rw [← hrb]
   clear hrb
   generalize wr.alloc (.cells #[.slice none 0 0, .int .i64 0] 60) = w4 at *
   go_loopw [7] (fun i w => ∃ j : Nat, ∃ v, j ≤ n ∧ i = .int .i64 j ∧ MadeO x a b c d W k rb w ∧ BlkB 60 rb [v, .int .i64 (sumX x k j)] w ∧ w.ownsRow (rb + 1) 3 1 v j (coefsV x k j) ∧ rb + 1 ≤ w.heap.size) (fun i _ => n - (intOf i).toNat)
   case atStart => exact ⟨0, .slice none 0 0, Nat.zero_le _, rfl, HM.out, HYR.out, World.ownsRow_nil _ _ _ _, HZR.out⟩
   case round =>
    clear HM HYR HZR
    obtain ⟨j, v, hj, rfl, hm, hy, hown, hz⟩ := hrel
    have HM := Lib.hid hm
    have HY := Lib.hid hy
    have HO := Lib.hid hown
    have HZ := Lib.hid hz
    obtain ⟨L, tv, _, _, _, hs⟩ := hm.ex
    have s0 := hs.cell (i := 0) rfl
    have s1 := hs.cell (i := 1) rfl
    rw [← HNN.out] at s0
    have x2 := hm.xb.cell (i := 2) (by rw [HVAL.out]; rfl : _ = some (.slice a lc c))
    have x3 := hm.xb.cell (i := 3) (by rw [HVAL.out]; rfl : _ = some (.slice b lh d))
    have r0 := hy.cell (i := 0) rfl
    have r1 := hy.cell (i := 1) rfl
    have rf0 := hy.froz 0
    have rf1 := hy.froz 1
    clear hm hy hown hz hs
    by_cases hjl : j < n
    ·have hjl' : (j : Int) < n := by omega
     obtain ⟨i0, hi0, hz0, hz1, hz2⟩ := info_ex inf_int
     have HI0 := Lib.hid hi0
     have HZ0 := Lib.hid hz0
     have HZ1 := Lib.hid hz1
     have HZ2 := Lib.hid hz2
     obtain ⟨q, t, ht, e1, e2, htb, hjb⟩ := idx_facts (Nat.le_trans hk hm2) hn2 hjl
     have HAC : Hid (∀ w, Below W.heap.size W w → Calls Tryz.prog 36 #[.slice a lc c, .int .i64 t] w fun e w' => e = .returned (.int .i64 (atL x.coefs t)) ∧ w = w') := Lib.hid (fun w hB => by
      have := rat_any x.coefs a c t w (HNM.out.cof.via hB) HNM.out.clen HNM.out.ccap htb
      rw [← HLC.out] at this; exact this)
     have HPC := Lib.hid (fun w => rpick_any (atL x.coefs t) 19 (atL_ok HNM.out.cok t).1 (atL_ok HNM.out.cok t).2 (by decide) (by decide) w)
     have hcf : coefX x k j = pkN (atL x.coefs t) 19 - 9 := by unfold coefX; rw [ht, HNN.out]
     have HAH : Hid (∀ w, Below W.heap.size W w → Calls Tryz.prog 36 #[.slice b lh d, .int .i64 j] w fun e w' => e = .returned (.int .i64 (atL x.hidden j)) ∧ w = w') := Lib.hid (fun w hB => by
      have := rat_any x.hidden b d j w (HNM.out.hid.via hB) HNM.out.hlen HNM.out.hcap hjb
      rw [← HLH.out] at this; exact this)
     have HPH := Lib.hid (fun w => rpick_any (atL x.hidden j) 6 (atL_ok HNM.out.hok j).1 (atL_ok HNM.out.hok j).2 (by decide) (by decide) w)
     obtain ⟨pr, hsn, e3, e4, e5, e6, e7⟩ := col_facts x k j (Nat.lt_of_lt_of_le hjl hn2) hcf rfl
     have HSN := Lib.hid hsn
     have HCN := Lib.hid (coefsV_snoc x k j)
     have HLT : Hid (∀ g, v.ownBlock = some g → rb ≤ g ∧ rb ≠ g) := Lib.hid (fun g hg => by have := (own_lt HO.out g hg).1; exact ⟨Nat.le_trans (Nat.le_succ _) this, Nat.ne_of_lt this⟩)
     have HR1 : Hid (j + 1 ≤ maxLen) := Lib.hid (by unfold maxLen; exact Nat.le_trans hjl (Nat.le_trans hn2 (by decide)))
     have HR2 : Hid ((j + 1) * 8 ≤ 140737488355328) := Lib.hid (Nat.le_trans (Nat.mul_le_mul_right 8 (Nat.le_trans hjl hn2)) (by decide))
     generalize coefX x k j = cf at *
     generalize sumX x k j = sm at *
     generalize atL x.coefs t = ac at *
     generalize atL x.hidden j = ah at *
     generalize pkN ac 19 = p3 at *
     generalize pkN ah 6 = p4 at *
     clear hi0 hz0 hz1 hz2 ht hcf hsn htb hjb
     go_wp2_with fail
     refine (HAC.out _ HM.out.below).mono ?_
     rintro e w5 ⟨rfl, rfl⟩
     go_wp2_with fail
     refine (HPC.out _).mono ?_
     rintro e w5 ⟨rfl, rfl⟩
     clear HAC HPC
     go_wp2_with (go_loud (at_builtin; refine wpList_append_own _ rfl _ _ 22 rfl (rb + 1) 3 i0 (.int .i64 0) 1 8 Tryz.underlying22 HI0.out HZ0.out HZ1.out HZ2.out rfl (by decide) v j (coefsV x k j) (by rfl) (HO.out.alloc _) ⟨wr.heap.size, 0, none⟩ 1 1 [.int .i64 cf] (by rfl) rfl (news_intC _ _ _ rfl) (one_intC _) HR1.out HR2.out (Nat.le_trans HZ.out (alloc_belowL wr (.cells #[.int .i64 cf] 3)).size) ?_; intro v2 w9 hown9 hgrow9 _; have HO9 := Lib.hid hown9; have HM9 := Lib.hid ((HM.out.via (alloc_belowL wr (.cells #[.int .i64 cf] 3))).grown hgrow9 (fun g hg => (HLT.out g hg).1)); have HY9 := Lib.hid (kept_blk hgrow9 (HY.out.via (alloc_belowL wr (.cells #[.int .i64 cf] 3))) (fun g hg => (HLT.out g hg).2)); have HZ9 : Hid (rb + 1 ≤ w9.heap.size) := Lib.hid (Nat.le_trans HZ.out (Nat.le_trans (alloc_belowL wr (.cells #[.int .i64 cf] 3)).size hgrow9.size)); clear hown9 hgrow9; have q0 := HY9.out.cell (i := 0) rfl; have qf := HY9.out.froz 0; obtain ⟨a2, c2, rfl, _⟩ := own_cells HO9.out))
     have HO := Lib.hid (own_set HO9.out (p := rb) (i := 0) (u := .slice a2 (j + 1) c2) (fun g hg => by have := (own_lt HO9.out g hg).1; omega))
     have HM := Lib.hid (HM9.out.set (Nat.le_refl _) 0 (.slice a2 (j + 1) c2))
     have HY := Lib.hid (HY9.out.set 0 (.slice a2 (j + 1) c2))
     have HZ : Hid (rb + 1 ≤ (w9.setCell ⟨rb, 0, none⟩ (.slice a2 (j + 1) c2)).heap.size) := Lib.hid (by rw [World.size_setCell]; exact HZ9.out)
     clear HO9 HM9 HY9 HZ9 q0 qf s0 s1 x2 x3 r0 r1 rf0 rf1 e1 e2 e3
     generalize w9.setCell ⟨rb, 0, none⟩ (.slice a2 (j + 1) c2) = w10 at *
     have x3 := HM.out.xb.cell (i := 3) (by rw [HVAL.out]; rfl : _ = some (.slice b lh d))
     have r1 := HY.out.cell (i := 1) rfl
     go_still_tail 11, (by kernel_rfl)
     still_call ((HAH.out _ HM.out.below.drew).mono (fun e w' h => ⟨h.1, h.2.symm⟩))
     repeat still_step
     still_call ((HPH.out _).mono (fun e w' h => ⟨h.1, h.2.symm⟩))
     repeat still_step
     try refine wpStill_nil ?_
     have hD : Below w10.heap.size w10 w10.drew := (Below.refl w10.heap.size w10).drew
     have HM := Lib.hid (HM.out.via hD)
     have HY := Lib.hid (HY.out.via hD)
     have HO := Lib.hid (owns_belowR HO.out hD)
     have HZ : Hid (rb + 1 ≤ w10.drew.heap.size) := Lib.hid (Nat.le_trans HZ.out hD.size)
     clear hD x3 r1 HAH HPH
     change wpList _ _ _ _ _ w10.drew
     generalize w10.drew = w11 at *
     have r1 := HY.out.cell (i := 1) rfl
     have rf1 := HY.out.froz 1
     go_wp2_with fail
     go_roundw
     case rel =>
      refine ⟨j + 1, _, by omega, by go_num, HM.out.set (Nat.le_refl _) 1 _, by rw [HSN.out]; exact HY.out.set 1 _, by rw [HCN.out]; exact own_set HO.out (fun g hg => by have := (own_lt HO.out g hg).1; omega), by rw [World.size_setCell]; exact HZ.out⟩
     case measure => simp [intOf]; omega
    ·obtain rfl : j = n := by omega
     have HMX := Lib.hid (off_facts x k HMI.out (by rw [HMI.out]; exact HNM.out.miss))
     have x0 := HM.out.xb.cell (i := 0) (by rw [HVAL.out]; rfl : _ = some (.int .i64 xc))
     have x1 := HM.out.xb.cell (i := 1) (by rw [HVAL.out]; rfl : _ = some (.int .i64 xr))
     have x4 := HM.out.xb.cell (i := 4) (by rw [HVAL.out]; rfl : _ = some (.int .i64 ms))
     go_wp2_with fail
     refine (HMS.out _).mono ?_
     rintro e w5 ⟨rfl, hB5⟩
     have HM := Lib.hid (HM.out.via hB5)
     have HY := Lib.hid (HY.out.via hB5)
     have HO := Lib.hid (owns_belowR HO.out hB5)
     have HZ : Hid (rb + 1 ≤ w5.heap.size) := Lib.hid (Nat.le_trans HZ.out hB5.size)
     clear hB5 x0 x1 x2 x3 x4 s0 s1 r0 r1 rf0 rf1
     obtain ⟨o1, o2, o3, o4, o5, o6, o7⟩ := HMX.out
     have HMO := Lib.hid o5
     have HMP := Lib.hid o6
     have HMQ := Lib.hid o7
     clear o5 o6 o7
     obtain ⟨q0, q1⟩ := pkN_bounds (ms.tdiv 30) (n := 41) (by decide)
     have HVF := Lib.hid (fun h => val_facts x k (q := pkN (ms.tdiv 30) 41) ⟨q0, q1⟩ h)
     rw [← HNN.out] at HVF
     rw [← HMM.out] at HMP HMQ
     have HPM := Lib.hid (fun w => rpick_any (ms.tdiv 3) m (tdiv_ok (k := 3) (by decide) (by rw [HMI.out]; exact HNM.out.miss)).1 (tdiv_ok (k := 3) (by decide) (by rw [HMI.out]; exact HNM.out.miss)).2 (by omega) (by omega) w)
     have HPO := Lib.hid (fun w => rpick_any (ms.tdiv 30) 41 (tdiv_ok (k := 30) (by decide) (by rw [HMI.out]; exact HNM.out.miss)).1 (tdiv_ok (k := 30) (by decide) (by rw [HMI.out]; exact HNM.out.miss)).2 (by decide) (by decide) w)
     obtain ⟨L, tv, hL, hO, hlt2, hs⟩ := HM.out.ex
     have HL := Lib.hid hL
     have HSO := Lib.hid hO
     have HLT := Lib.hid hlt2
     obtain ⟨ta, tc, rfl, _⟩ := own_cells hO.top
     have HSB := Lib.hid hs
     obtain ⟨va, vc, rfl, _⟩ := own_cells HO.out
     obtain ⟨i0, hi0, hz0, hz1, hz2⟩ := info_ex inf_eqn
     have HI0 := Lib.hid hi0
     have HZ0 := Lib.hid hz0
     have HZ1 := Lib.hid hz1
     have HZ2 := Lib.hid hz2
     have hll : L.length = k := by have := congrArg List.length hL; simpa using this
     have HLL := Lib.hid hll
     clear hi0 hz0 hz1 hz2 hL hO hlt2 hs HMX hll
     obtain ⟨sm, hsm⟩ : ∃ sm, sm = sumX x k j := ⟨_, rfl⟩
     rw [← hsm] at HY HVF
     have HSM := Lib.hid hsm
     clear hsm
     have x4 := HM.out.xb.cell (i := 4) (by rw [HVAL.out]; rfl : _ = some (.int .i64 ms))
     have s1 := HSB.out.cell (i := 1) rfl
     have sf1 := HSB.out.froz 1
     have r0 := HY.out.cell (i := 0) rfl
     have r1 := HY.out.cell (i := 1) rfl
     have rf1 := HY.out.froz 1
     have HR1 : Hid (L.length + 1 ≤ maxLen) := Lib.hid (by rw [HLL.out]; unfold maxLen; exact Nat.le_trans hlt (Nat.le_trans hm2 (by decide)))
     have HR2 : Hid ((L.length + 1) * 32 ≤ 140737488355328) := Lib.hid (by rw [HLL.out]; exact Nat.le_trans (Nat.mul_le_mul_right 32 (Nat.le_trans hlt hm2)) (by decide))
     cases hms : missX x with
     | false =>
      have HVV : Hid (sm = sumX x k j + offX x k) := Lib.hid (by rw [HSM.out, HMO.out hms, Int.add_zero])
      clear HVF hms
      have HR3 : Hid (W.heap.size + 3 ≤ (w5.alloc (.cells #[.slice va j vc, .int .i64 sm] 60)).heap.size) := Lib.hid (Nat.le_trans HM.out.size (Nat.le_trans HM.out.here (alloc_belowL w5 _).size))
      go_wp2_with (go_loud (at_builtin; refine wpList_append_own _ rfl _ _ 25 rfl (W.heap.size + 3) 60 i0 (.agg #[.slice none 0 0, .int .i64 0]) 2 32 Tryz.underlying25 HI0.out HZ0.out HZ1.out HZ2.out rfl (by decide) (.slice ta L.length tc) L.length (rowsU L) (by rfl) (HSO.out.top.alloc _) ⟨w5.heap.size, 0, none⟩ 1 1 [.slice va j vc, .int .i64 sm] (by rfl) rfl (news_two w5 _ _ _) (one_two _ _ _ _) HR1.out HR2.out HR3.out ?_; intro v2 w9 hown9 hgrow9 _; have HO9 := Lib.hid hown9; have HG9 := Lib.hid hgrow9; have HS9 := Lib.hid (kept_blk hgrow9 (HSB.out.via (alloc_belowL w5 (.cells #[.slice va j vc, .int .i64 sm] 60))) (fun g e => by have := (own_lt HSO.out.top g e).1; omega)); clear hown9 hgrow9; have q1 := HS9.out.cell (i := 1) rfl; have qf := HS9.out.froz 1; obtain ⟨a2, c2, rfl, _⟩ := own_cells HO9.out))
      go_roundw
      case rel => exact ⟨k + 1, _, by omega, by go_num, MadeO.push HM.out HO.out HNN.out HL.out HSO.out HLT.out (by rw [← HVV.out]; exact HO9.out) HG9.out⟩
      case measure => simp [intOf]; omega
     | true =>
      cases hkk : ((k : Int) == pkN (ms.tdiv 3) m) with
      | false =>
       have HVV : Hid (sm = sumX x k j + offX x k) := Lib.hid (by rw [HSM.out, HMP.out hkk, Int.add_zero])
       clear HVF hms
       generalize pkN (ms.tdiv 3) m = pm at *
       go_wp2_with fail
       refine (HPM.out _).mono ?_
       rintro e w6 ⟨rfl, rfl⟩
       clear HPM
       have HR3 : Hid (W.heap.size + 3 ≤ (w5.alloc (.cells #[.slice va j vc, .int .i64 sm] 60)).heap.size) := Lib.hid (Nat.le_trans HM.out.size (Nat.le_trans HM.out.here (alloc_belowL w5 _).size))
       go_wp2_with (go_loud (at_builtin; refine wpList_append_own _ rfl _ _ 25 rfl (W.heap.size + 3) 60 i0 (.agg #[.slice none 0 0, .int .i64 0]) 2 32 Tryz.underlying25 HI0.out HZ0.out HZ1.out HZ2.out rfl (by decide) (.slice ta L.length tc) L.length (rowsU L) (by rfl) (HSO.out.top.alloc _) ⟨w5.heap.size, 0, none⟩ 1 1 [.slice va j vc, .int .i64 sm] (by rfl) rfl (news_two w5 _ _ _) (one_two _ _ _ _) HR1.out HR2.out HR3.out ?_; intro v2 w9 hown9 hgrow9 _; have HO9 := Lib.hid hown9; have HG9 := Lib.hid hgrow9; have HS9 := Lib.hid (kept_blk hgrow9 (HSB.out.via (alloc_belowL w5 (.cells #[.slice va j vc, .int .i64 sm] 60))) (fun g e => by have := (own_lt HSO.out.top g e).1; omega)); clear hown9 hgrow9; have q1 := HS9.out.cell (i := 1) rfl; have qf := HS9.out.froz 1; obtain ⟨a2, c2, rfl, _⟩ := own_cells HO9.out))
       go_roundw
       case rel => exact ⟨k + 1, _, by omega, by go_num, MadeO.push HM.out HO.out HNN.out HL.out HSO.out HLT.out (by rw [← HVV.out]; exact HO9.out) HG9.out⟩
       case measure => simp [intOf]; omega
      | true =>
       obtain ⟨v1, v2, v3, v4⟩ := HVF.out (HMQ.out hms hkk)
       obtain ⟨vv, hvv⟩ : ∃ vv, vv = sm + offX x k := ⟨_, rfl⟩
       rw [← hvv] at v3 v4
       have HVV : Hid (vv = sumX x k j + offX x k) := Lib.hid (by rw [hvv, HSM.out])
       clear HVF hms hvv
       generalize pkN (ms.tdiv 3) m = pm at *
       generalize pkN (ms.tdiv 30) 41 = po at *
       go_wp2_with fail
       refine (HPM.out _).mono ?_
       rintro e w6 ⟨rfl, rfl⟩
       clear HPM
       go_wp2_with fail
       go_still_tail 9, (by kernel_rfl)
       still_call ((HPO.out _).mono (fun e w' h => ⟨h.1, h.2.symm⟩))
       repeat still_step
       try refine wpStill_nil ?_
       have hD : Below w5.heap.size w5 w5.drew := (Below.refl w5.heap.size w5).drew
       have HM := Lib.hid (HM.out.via hD)
       have HY := Lib.hid (HY.out.via hD)
       have HO := Lib.hid (owns_belowR HO.out hD)
       have HSO := Lib.hid (HSO.out.via hD)
       have HSB := Lib.hid (HSB.out.via hD)
       clear hD x4 s1 sf1 r0 r1 rf1 HPO
       change wpList _ _ _ _ _ w5.drew
       generalize w5.drew = w6 at *
       have r1 := HY.out.cell (i := 1) rfl
       have rf1 := HY.out.froz 1
       have s1 : (w6.setCell ⟨rb, 1, none⟩ (.int .i64 vv)).cell? ⟨W.heap.size + 2, 1, none⟩ = some (.slice ta L.length tc) := (HSB.out.other (by have := HM.out.size; omega)).cell (i := 1) rfl
       have sf1 : (w6.setCell ⟨rb, 1, none⟩ (.int .i64 vv)).frozen? ⟨W.heap.size + 2, 1, none⟩ = false := (HSB.out.other (by have := HM.out.size; omega)).froz 1
       have t0 : (w6.setCell ⟨rb, 1, none⟩ (.int .i64 vv)).cell? ⟨rb, 0, none⟩ = some (.slice va j vc) := (HY.out.set 1 (.int .i64 vv)).cell (i := 0) rfl
       have t1 : (w6.setCell ⟨rb, 1, none⟩ (.int .i64 vv)).cell? ⟨rb, 1, none⟩ = some (.int .i64 vv) := (HY.out.set 1 (.int .i64 vv)).cell (i := 1) rfl
       have HM := Lib.hid (HM.out.set (Nat.le_refl _) 1 (.int .i64 vv))
       have HO := Lib.hid (own_set HO.out (p := rb) (i := 1) (u := .int .i64 vv) (fun g hg => by have := (own_lt HO.out g hg).1; omega))
       have HSO := Lib.hid (HSO.out.keepN HLT.out (KeepN.set w6 (Nat.le_refl rb) 1 (.int .i64 vv)))
       have HSB : Hid (BlkB 27 (W.heap.size + 2) [.int .i64 (x.n : Nat), .slice ta L.length tc] (w6.setCell ⟨rb, 1, none⟩ (.int .i64 vv))) := Lib.hid (HSB.out.other (by have := HM.out.size; omega))
       have HR3 : Hid (W.heap.size + 3 ≤ ((w6.setCell ⟨rb, 1, none⟩ (.int .i64 vv)).alloc (.cells #[.slice va j vc, .int .i64 vv] 60)).heap.size) := Lib.hid (Nat.le_trans HM.out.size (Nat.le_trans HM.out.here (alloc_belowL (w6.setCell ⟨rb, 1, none⟩ (.int .i64 vv)) _).size))
       go_wp2_with (go_loud (at_builtin; refine wpList_append_own _ rfl _ _ 25 rfl (W.heap.size + 3) 60 i0 (.agg #[.slice none 0 0, .int .i64 0]) 2 32 Tryz.underlying25 HI0.out HZ0.out HZ1.out HZ2.out rfl (by decide) (.slice ta L.length tc) L.length (rowsU L) (by rfl) (HSO.out.top.alloc _) ⟨w6.heap.size, 0, none⟩ 1 1 [.slice va j vc, .int .i64 vv] (by rfl) rfl (by have := news_two (w6.setCell ⟨rb, 1, none⟩ (.int .i64 vv)) (.slice va j vc) (.int .i64 vv) 60; rw [World.size_setCell] at this; exact this) (one_two _ _ _ _) HR1.out HR2.out HR3.out ?_; intro v2 w9 hown9 hgrow9 _; have HO9 := Lib.hid hown9; have HG9 := Lib.hid hgrow9; have HS9 := Lib.hid (kept_blk hgrow9 (HSB.out.via (alloc_belowL (w6.setCell ⟨rb, 1, none⟩ (.int .i64 vv)) (.cells #[.slice va j vc, .int .i64 vv] 60))) (fun g e => by have := (own_lt HSO.out.top g e).1; omega)); clear hown9 hgrow9; have q1 := HS9.out.cell (i := 1) rfl; have qf := HS9.out.froz 1; obtain ⟨a2, c2, rfl, _⟩ := own_cells HO9.out))
       go_roundw
       case rel => exact ⟨k + 1, _, by omega, by go_num, MadeO.push HM.out HO.out HNN.out HL.out HSO.out HLT.out (by rw [← HVV.out]; exact HO9.out) HG9.out⟩
       case measure => simp [intOf]; omega
  ·obtain rfl : k = m := by omega
   obtain ⟨L, tv, hL, hO, hlt2, hs⟩ := HM.out.ex
   have hll : L.length = k := by have := congrArg List.length hL; simpa using this
   have hrows : L.map RowX.p = (madeS x).rows := by rw [hL, HMM.out]; rfl
   obtain ⟨a2, c2, hv2, hsm⟩ := hO.sysM (cols := (x.n : Nat)) (by have := x.n_bounds; unfold I64; omega) (fun r hr => by
    have hm : r.p ∈ (madeS x).rows := by rw [← hrows]; exact List.mem_map_of_mem hr
    obtain ⟨i, hi, hp⟩ := made_mem hm
    unfold RowX.p at hp
    have h1 : r.coef = (rowX x i).1 := by rw [← hp]
    have h2 : r.val = (rowX x i).2 := by rw [← hp]
    refine ⟨fun z hz => ?_, ?_⟩
    ·rw [h1] at hz; have := rowX_coef hz; unfold I64; omega
    ·rw [h2]; have := rowX_val x i; unfold I64; omega)
   rw [hll] at hv2
   subst hv2
   have hsm2 : SysM wr (madeS x) a2 c2 := by
    have : madeS x = ⟨(x.n : Nat), L.map RowX.p⟩ := by rw [hrows]; rfl
    rw [this]; exact hsm
   rw [← HNN.out] at hs
   have s0 := hs.cell (i := 0) rfl
   have s1 := hs.cell (i := 1) rfl
   have hr := HM.out.res
   have t0 := hr.cell (i := 0) rfl
   have t1 := hr.cell (i := 1) rfl
   have tf0 := hr.froz 0
   have tf1 := hr.froz 1
   have hB2 : Below wr.heap.size wr wr := Below.refl _ _
   have HFIN : Hid (SysO W.heap.size ((wr.setCell ⟨W.heap.size + 1, 0, none⟩ (.int .i64 n)).setCell ⟨W.heap.size + 1, 1, none⟩ (.slice a2 k c2)) L (.slice a2 k c2) ∧ SysM ((wr.setCell ⟨W.heap.size + 1, 0, none⟩ (.int .i64 n)).setCell ⟨W.heap.size + 1, 1, none⟩ (.slice a2 k c2)) (madeS x) a2 c2) := Lib.hid (by
    have hk : ∀ g, W.heap.size + 3 ≤ g → ((wr.setCell ⟨W.heap.size + 1, 0, none⟩ (.int .i64 n)).setCell ⟨W.heap.size + 1, 1, none⟩ (.slice a2 k c2)).heap[g]? = wr.heap[g]? := fun g hg =>
     (heap_setCell_other _ _ _ _ (by show g ≠ W.heap.size + 1; omega)).trans (heap_setCell_other _ _ _ _ (by show g ≠ W.heap.size + 1; omega))
    have hS := hO.keep (w' := (wr.setCell ⟨W.heap.size + 1, 0, none⟩ (.int .i64 n)).setCell ⟨W.heap.size + 1, 1, none⟩ (.slice a2 k c2)) (fun g e => hk g (own_lt hO.top g e).1) (fun r hr g e => hk g (own_lt (hO.rows r hr) g e).1)
    refine ⟨hS.base (by omega), ?_⟩
    obtain ⟨a3, c3, hv3, hsm3⟩ := hS.sysM (cols := (x.n : Nat)) (by have := x.n_bounds; unfold I64; omega) (fun r hr => by
     have hm : r.p ∈ (madeS x).rows := by rw [← hrows]; exact List.mem_map_of_mem hr
     obtain ⟨i, hi, hp⟩ := made_mem hm
     unfold RowX.p at hp
     have h1 : r.coef = (rowX x i).1 := by rw [← hp]
     have h2 : r.val = (rowX x i).2 := by rw [← hp]
     refine ⟨fun z hz => ?_, ?_⟩
     ·rw [h1] at hz; have := rowX_coef hz; unfold I64; omega
     ·rw [h2]; have := rowX_val x i; unfold I64; omega)
    rw [hll] at hv3
    cases hv3
    have : madeS x = ⟨(x.n : Nat), L.map RowX.p⟩ := by rw [hrows]; rfl
    rw [this]; exact hsm3)
   have HBX := Lib.hid HM.out.below
   have HRES := Lib.hid hr
   have HROW := Lib.hid hrows
   clear hL hO hlt2 hs hll hrows hsm hsm2 hr hB2 HM
   go_wp2_with fail
   refine bodyPost_ret (results_cell_row rfl _ _ (W.heap.size + 1) _ _ _ _ rfl ((HRES.out.set 0 (.int .i64 n)).set 1 (.slice a2 k c2)) Tryz.underlying27 rfl info_sysN) rfl ⟨⟨L, a2, c2, rfl, HROW.out, HFIN.out.1, HFIN.out.2⟩, (HBX.out.setCell (by show W.heap.size ≤ W.heap.size + 1; omega) _).setCell (by show W.heap.size ≤ W.heap.size + 1; omega) _⟩
end Go.Proofs.YtofmjkgaaphnkaaGreatDoor
/- LinInvP: Plain mathematics of layer 6: the inverse of an odd number, what has no room dropped. Nothing of the program. -/
namespace Putlog

/-- b is the inverse of a but for a multiple of m. -/
def InvTo (a b m : Int) : Prop := ∃ q, a * b = 1 + m * q
theorem inv_start {a h : Int} (ha : a = 2 * h + 1) : InvTo a a 8 := by
 have : ∃ q, h * (h + 1) = 2 * q := by
  rcases (by omega : h % 2 = 0 ∨ h % 2 = 1) with e | e
  ·exact ⟨h / 2 * (h + 1), by rw [← Int.mul_assoc]; congr 1; omega⟩
  ·exact ⟨h * ((h + 1) / 2), by rw [Int.mul_left_comm]; congr 1; omega⟩
 obtain ⟨q, hq⟩ := this
 refine ⟨q, ?_⟩
 have e1 : (2 * h + 1) * (2 * h + 1) = 4 * (h * (h + 1)) + 1 := by
  simp only [Int.mul_add, Int.add_mul, Int.mul_one, Int.one_mul]
  have : 2 * h * (2 * h) = 4 * (h * h) := by rw [Int.mul_assoc, Int.mul_left_comm h, ← Int.mul_assoc]; rfl
  omega
 rw [ha, e1, hq]; omega
theorem inv_step {a b m : Int} (h : InvTo a b m) : InvTo a (b * (2 - a * b)) (m * m) := by
 obtain ⟨q, hq⟩ := h
 refine ⟨-(q * q), ?_⟩
 rw [← Int.mul_assoc, hq]
 have e : (1 + m * q) * (2 - (1 + m * q)) = 1 - (m * q) * (m * q) := by
  generalize m * q = x
  simp only [Int.mul_add, Int.add_mul, Int.mul_sub, Int.mul_one, Int.one_mul]
  omega
 rw [e, Int.mul_neg]
 have : m * q * (m * q) = m * m * (q * q) := by rw [Int.mul_assoc, Int.mul_left_comm q, ← Int.mul_assoc]
 omega
theorem inv_down {a b m n : Int} (h : InvTo a b (m * n)) : InvTo a b m := by
 obtain ⟨q, hq⟩ := h
 exact ⟨n * q, by rw [hq, Int.mul_assoc]⟩
def invN (a : Int) : Nat → Int
 | 0 => a
 | k + 1 => invN a k * (2 - a * invN a k)
theorem invN_ok {a h : Int} (ha : a = 2 * h + 1) : ∀ k, InvTo a (invN a k) (2 ^ (3 * 2 ^ k))
 | 0 => inv_start ha
 | k + 1 => by
  have := inv_step (invN_ok ha k)
  rw [← Int.pow_add] at this
  rw [invN, show 3 * 2 ^ (k + 1) = 3 * 2 ^ k + 3 * 2 ^ k by rw [Nat.pow_succ]; omega]
  exact this
theorem invN_eight {a h : Int} (ha : a = 2 * h + 1) : InvTo a (invN a 8) (WB ^ 10) := by
 have := invN_ok ha 8
 rw [show (3 * 2 ^ 8 : Nat) = 64 * 10 + 128 by decide, Int.pow_add, two_wb] at this
 exact inv_down this
end Putlog
/- LinInv: The contract of inverse. -/
namespace Go.Proofs.YtofmjkgaaphnkaaGreatDoor
open Go.RowKit Putlog

theorem num_two : numL 2 = [.int .u64 2, .int .u64 0, .int .u64 0, .int .u64 0, .int .u64 0, .int .u64 0, .int .u64 0, .int .u64 0, .int .u64 0, .int .u64 0] := by kernel_rfl
set_option maxRecDepth 100000 in
set_option maxHeartbeats 1000000 in
theorem inverse_num (a : Int) (W : World) :
  Calls Tryz.prog 104 #[.agg (numL a).toArray] W fun e w' => e = .returned (.agg (numL (invN a 8)).toArray) ∧ Below W.heap.size W w' := by
 have hb1 := alloc_belowL W (.cells (numL a).toArray 81)
 have g1 := heap_alloc_new W (.cells (numL a).toArray 81)
 have HLEN := Lib.hid (numL_len a)
 go_enter Tryz.func104, Tryz.ntmps104
 have HB := Lib.hid hb1
 have N1 : Hid (NumB W.heap.size (numL a) _) := Lib.hid g1
 clear hb1 g1
 go_upto_region 1 with fail
 change Code.wp _ _ _ _ ((W.alloc (.cells (numL a).toArray 81)).alloc (.cells zeroL.toArray 81))
 have hb2 := alloc_belowL (W.alloc (.cells (numL a).toArray 81)) (.cells zeroL.toArray 81)
 have g2 := heap_alloc_new (W.alloc (.cells (numL a).toArray 81)) (.cells zeroL.toArray 81)
 have s2 : ((W.alloc (.cells (numL a).toArray 81)).alloc (.cells zeroL.toArray 81)).heap.size = W.heap.size + 1 + 1 := by simp only [alloc_sizeL]
 simp only [alloc_sizeL] at g2
 have HB := Lib.hid (belowVia hb2 HB.out)
 have N1 := Lib.hid (N1.out.via hb2)
 have N2 : Hid (NumB (W.heap.size + 1) zeroL _) := Lib.hid g2
 have HS2 := Lib.hid s2
 clear hb2 g2 s2
 generalize (W.alloc (.cells (numL a).toArray 81)).alloc (.cells zeroL.toArray 81) = w0 at *
 have hrg := num_range N1.out
 have hsz10 : (Tryz.prog.info? 81).map (·.size) = some (numL a).length := by rw [info_numW, HLEN.out]
 have hb3 := alloc_belowL w0 (.cells zeroL.toArray 81)
 have g3 : NumB w0.heap.size zeroL (w0.alloc (.cells zeroL.toArray 81)) := heap_alloc_new w0 (.cells zeroL.toArray 81)
 rw [HS2.out] at g3
 have hst := store_num g3 rfl (numL_len a) (numL_one a)
 have HB := Lib.hid (below_setCells (W.heap.size + 1 + 1) (by omega) (numL a) _ 0 (belowVia hb3 HB.out))
 have M1 : Hid (NumB W.heap.size (numL a) ((w0.alloc (.cells zeroL.toArray 81)).setCells (W.heap.size + 1 + 1) 0 (numL a))) := (setCells_other _ _ _ _ _ (by omega)).trans (N1.out.via hb3)
 have M2 : Hid (NumB (W.heap.size + 1) zeroL ((w0.alloc (.cells zeroL.toArray 81)).setCells (W.heap.size + 1 + 1) 0 (numL a))) := (setCells_other _ _ _ _ _ (by omega)).trans (N2.out.via hb3)
 have M3 : Hid (NumB (W.heap.size + 1 + 1) (numL (invN a 0)) ((w0.alloc (.cells zeroL.toArray 81)).setCells (W.heap.size + 1 + 1) 0 (numL a))) := setCells_whole (cs := zeroL.toArray) (numL a) rfl g3
 have hs2 := HS2.out
 have hlen := HLEN.out
 clear N1 N2 HS2 hb3 g3
 obtain ⟨la, hla⟩ : ∃ la, la = numL a := ⟨_, rfl⟩
 rw [← hla] at hrg hsz10 hst HB hlen M1 M2 M3 HLEN
 have HLA := Lib.hid hla
 clear hla
 change (storeCells ⟨W.heap.size + 1 + 1, 0, none⟩ la 0).run Tryz.prog (w0.alloc (.cells #[.int .u64 0, .int .u64 0, .int .u64 0, .int .u64 0, .int .u64 0, .int .u64 0, .int .u64 0, .int .u64 0, .int .u64 0, .int .u64 0] 81)) = _ at hst
 go_wp2_with (refine wpList_load_mid rfl _ _ rfl W.heap.size 0 rfl la _ hrg Tryz.underlying81 rfl hsz10 ?_)
 generalize (w0.alloc (.cells zeroL.toArray 81)).setCells (W.heap.size + 1 + 1) 0 la = w1 at *
 clear hrg hst
 go_loopw [4] (fun i wr => ∃ k : Nat, k ≤ 8 ∧ i = .int .i64 (3 * 2 ^ k : Nat) ∧ NumB W.heap.size la wr ∧ NumB (W.heap.size + 1) zeroL wr ∧ NumB (W.heap.size + 1 + 1) (numL (invN a k)) wr ∧ Below W.heap.size W wr) (fun i _ => 1000 - (intOf i).toNat)
 case atStart => exact ⟨0, by omega, rfl, M1.out, M2.out, M3.out, HB.out⟩
 case round =>
  clear M1 M2 M3 HB
  obtain ⟨k, hk, rfl, n1, n2, n3, hB⟩ := hrel
  have N1 := Lib.hid n1
  have N2 := Lib.hid n2
  have N3 := Lib.hid n3
  have HB := Lib.hid hB
  clear n1 n2 n3 hB
  by_cases hlt : k < 8
  ·have h640 : 3 * 2 ^ k < 640 ∧ 3 * 2 ^ (k + 1) = 3 * 2 ^ k * 2 := by
    refine ⟨?_, by rw [Nat.pow_succ]; omega⟩
    have : 2 ^ k ≤ 2 ^ 7 := Nat.pow_le_pow_right (by decide) (by omega)
    omega
   obtain ⟨R, hR⟩ : ∃ R, R = 3 * 2 ^ k := ⟨_, rfl⟩
   rw [← hR] at h640 ⊢
   have hR1 : (R : Int) < 640 := by omega
   have hR0 : 3 ≤ R := by have : 0 < 2 ^ k := Nat.pow_pos (by decide); omega
   have HRE := Lib.hid h640.2
   clear hR h640
   obtain ⟨b, hb⟩ : ∃ b, b = invN a k := ⟨_, rfl⟩
   rw [← hb] at N3
   have HT1 := Lib.hid (fun w => times_num a b w)
   have HMI := Lib.hid (fun w => minus_num 2 (a * b) w)
   have HT2 := Lib.hid (fun w => times_num b (2 - a * b) w)
   have he : b * (2 - a * b) = invN a (k + 1) := by rw [invN, ← hb]
   rw [he] at HT2
   rw [num_two] at HMI
   have hund := Tryz.underlying81
   obtain ⟨lb, hlb⟩ : ∃ lb, lb = numL b := ⟨_, rfl⟩
   obtain ⟨lc, hlc⟩ : ∃ lc, lc = numL (invN a (k + 1)) := ⟨_, rfl⟩
   have hlb10 : lb.length = 10 := by rw [hlb]; rfl
   have hlc10 : lc.length = 10 := by rw [hlc]; rfl
   have hone : ∀ v ∈ lc, v.oneCell' = true := by rw [hlc]; exact numL_one _
   have hszb : (Tryz.prog.info? 81).map (·.size) = some lb.length := by rw [info_numW, hlb10]
   have hszc : (Tryz.prog.info? 81).map (·.size) = some lc.length := by rw [info_numW, hlc10]
   rw [← hlb] at N3 HT1 HT2
   rw [← hlc] at HT2
   rw [← HLA.out] at HT1
   have HLC := Lib.hid hlc
   generalize numL (a * b) = lab at *
   generalize numL (2 - a * b) = lm at *
   clear hlb hlc hb he
   have hth : wr.there (W.heap.size + 1 + 1) 0 10 := by have := num_there N3.out; rw [hlb10] at this; exact this
   go_upto_region 5 with fail
   refine wp_region_K (fun w' => w'.rangeAt W.heap.size 0 la ∧ w'.rangeAt (W.heap.size + 1 + 1) 0 lb) 7 (by kernel_rfl) ?_
   refine wpK_tk (i := 0) (d := some 10) rfl rfl (yieldsIf_load_mid (by rfl) _ _ rfl _ _ rfl lb _ (fun w h => h.2) hund rfl hszb) ⟨num_range N1.out, num_range N3.out⟩ ?_
   try simp only [Act.put, tA, tB, tC]
   refine wpK_tk (i := 2) (d := some 12) rfl rfl (yieldsIf_load_mid (by rfl) _ _ rfl _ _ rfl la _ (fun w h => h.1) hund rfl hsz10) ⟨num_range N1.out, num_range N3.out⟩ ?_
   try simp only [Act.put, tA, tB, tC]
   refine wpK_tk (i := 3) (d := some 13) rfl rfl (yieldsIf_load_mid (by rfl) _ _ rfl _ _ rfl lb _ (fun w h => h.2) hund rfl hszb) ⟨num_range N1.out, num_range N3.out⟩ ?_
   try simp only [Act.put, tA, tB, tC]
   refine wpK_tk (i := 1) (d := some 11) (v := ?_) rfl rfl (.inl ⟨by rfl, fun w _ => ?_⟩) ⟨num_range N1.out, num_range N3.out⟩ ?_
   rotate_left
   ·go_simp
    with_reducible rfl
   try simp only [Act.put, tA, tB, tC]
   have n1 := N1.out
   have n2 := N2.out
   have n3 := N3.out
   refine wpK_one (i := 4) (by kernel_rfl) rfl rfl ?_
   go_simp
   refine (HT1.out _).mono ?_
   rintro e u1 ⟨rfl, hB1⟩
   have n1 := (n1.via (Below.refl _ _).drew).via hB1
   have n2 := (n2.via (Below.refl _ _).drew).via hB1
   have n3 := (n3.via (Below.refl _ _).drew).via hB1
   have hB := belowVia hB1 (belowVia (Below.refl _ _).drew HB.out)
   refine ⟨⟨num_range n1, num_range n3⟩, ?_⟩
   try simp only [Act.put, tA, tB, tC]
   refine wpK_one (i := 5) (by kernel_rfl) rfl rfl ?_
   go_simp
   refine (HMI.out _).mono ?_
   rintro e u2 ⟨rfl, hB2⟩
   have n1 := n1.via hB2
   have n2 := n2.via hB2
   have n3 := n3.via hB2
   have hB := belowVia hB2 hB
   refine ⟨⟨num_range n1, num_range n3⟩, ?_⟩
   try simp only [Act.put, tA, tB, tC]
   refine wpK_one (i := 6) (by kernel_rfl) rfl rfl ?_
   go_simp
   refine (HT2.out _).mono ?_
   rintro e u3 ⟨rfl, hB3⟩
   have n1 := n1.via hB3
   have n2 := n2.via hB3
   have n3 := n3.via hB3
   have hB := belowVia hB3 hB
   refine ⟨⟨num_range n1, num_range n3⟩, ?_⟩
   try simp only [Act.put, tA, tB, tC]
   refine wpK_store (i := 7) (by kernel_rfl) rfl rfl rfl (by kernel_rfl) (by kernel_rfl) _ _ _ rfl (W.heap.size + 1 + 1) 0 lc rfl rfl (by have := num_there n3; rw [hlb10] at this; rw [hlc10]; exact this) hszc hone ?_
   have M1 := Lib.hid ((setCells_other (W.heap.size + 1 + 1) lc u3 0 _ (by omega)).trans n1)
   have M2 := Lib.hid ((setCells_other (W.heap.size + 1 + 1) lc u3 0 _ (by omega)).trans n2)
   have M3 := Lib.hid (setCells_whole (cs := lb.toArray) lc (by simp [hlb10, hlc10]) n3)
   have MB := Lib.hid (below_setCells (W.heap.size + 1 + 1) (by omega) lc _ 0 hB)
   clear n1 n2 n3 hB hB1 hB2 hB3 hone hund hszb hszc hsz10 hth HT1 HT2 HMI N1 N2 N3 HB
   generalize u3.setCells (W.heap.size + 1 + 1) 0 lc = w9 at *
   go_wp2_with fail
   go_roundw
   case rel => exact ⟨k + 1, by omega, by rw [HRE.out]; go_num, M1.out, M2.out, by rw [← HLC.out]; exact M3.out, MB.out⟩
   case measure => simp [intOf]; omega
  ·obtain rfl : k = 8 := by omega
   have hrg := num_range N3.out
   obtain ⟨lz, hlz⟩ : ∃ lz, lz = numL (invN a 8) := ⟨_, rfl⟩
   have hz10 : lz.length = 10 := by rw [hlz]; rfl
   have hone : ∀ v ∈ lz, v.oneCell' = true := by rw [hlz]; exact numL_one _
   rw [← hlz] at hrg
   have HLZ := Lib.hid hlz
   have hszz : (Tryz.prog.info? 81).map (·.size) = some lz.length := by rw [info_numW, hz10]
   have hst := store_num N2.out rfl hz10 hone
   have HSW : Hid (NumB (W.heap.size + 1) lz (wr.setCells (W.heap.size + 1) 0 lz)) := setCells_whole (cs := zeroL.toArray) lz (by simp [hz10]; rfl) N2.out
   have HXB : Hid (Below W.heap.size W (wr.setCells (W.heap.size + 1) 0 lz)) := below_setCells _ (by omega) _ _ _ HB.out
   clear hlz
   go_wp2_with (refine wpList_load_mid rfl _ _ rfl (W.heap.size + 1 + 1) 0 rfl lz _ hrg Tryz.underlying81 rfl hszz ?_)
   refine bodyPost_ret (results_num rfl _ _ (W.heap.size + 1) lz hz10 rfl HSW.out) rfl ?_
   exact ⟨by rw [HLZ.out], HXB.out⟩
end Go.Proofs.YtofmjkgaaphnkaaGreatDoor
/- LinDivi: The contracts of dividing and of what it returns. -/
namespace Go.Proofs.YtofmjkgaaphnkaaGreatDoor
open Go.RowKit Putlog

/-- Exact division by an odd number's inverse. -/
theorem div_exact {d q m : Int} {t : Nat} (hd : d = 2 ^ t * (2 * m + 1)) : numL (d * q / 2 ^ t * invN (d / 2 ^ t) 8) = numL q := by
 have hp : (0 : Int) < 2 ^ t := Int.pow_pos (by decide)
 have e1 : d / 2 ^ t = 2 * m + 1 := by rw [hd, Int.mul_ediv_cancel_left _ (Int.ne_of_gt hp)]
 have e2 : d * q / 2 ^ t = (2 * m + 1) * q := by rw [hd, Int.mul_assoc, Int.mul_ediv_cancel_left _ (Int.ne_of_gt hp)]
 obtain ⟨y, hy⟩ := invN_eight (a := 2 * m + 1) (h := m) rfl
 rw [e1, e2]
 refine numL_congr (q := q * y) ?_
 generalize invN (2 * m + 1) 8 = v at *
 generalize 2 * m + 1 = o at *
 generalize WB ^ 10 = M at *
 grind
/-- What dividing keeps for later. -/
structure DivBox (d : Int) (g1 g2 : Nat) (w : World) : Prop where
 twos : ∃ t : Nat, w.cell? ⟨g1, 0, none⟩ = some (.int .i64 t) ∧ Twos d t ∧ t < 640 ∧ NumB g2 (numL (invN (d / 2 ^ t) 8)) w
theorem DivBox.via {d : Int} {g1 g2 : Nat} {w w' : World} (h : DivBox d g1 g2 w) (hB : Below w.heap.size w w') : DivBox d g1 g2 w' := by
 obtain ⟨t, h1, h2, h3, h4⟩ := h.twos
 exact ⟨t, keptBelow hB h1, h2, h3, h4.via hB⟩
set_option maxRecDepth 100000 in
set_option maxHeartbeats 1000000 in
theorem dividing_num (d : Int) (h0 : 0 < d) (h1 : d < HM) (W : World) (hT : TabB W) :
  Calls Tryz.prog 75 #[.agg (numL d).toArray] W fun e w' => (∃ g1 g2 : Nat, e = .returned (.func (.func 105) #[] #[.pointer (some ⟨g1, 0, none⟩), .pointer (some ⟨g2, 0, none⟩)]) ∧ W.heap.size ≤ g1 ∧ W.heap.size ≤ g2 ∧ DivBox d g1 g2 w') ∧ Below W.heap.size W w' := by
 have hm := hm_two
 have HTW := Lib.hid (fun w h => twos_num d h0 (by
  have : (0 : Int) < HM := by decide
  omega) w h)
 have hb1 := alloc_belowL W (.cells (numL d).toArray 81)
 have g1 := heap_alloc_new W (.cells (numL d).toArray 81)
 have HT := Lib.hid (hT.via hb1)
 have HH := Lib.hid (And.intro h0 h1)
 clear hT h0 h1 hm
 go_enter Tryz.func75, Tryz.ntmps75
 have HB := Lib.hid hb1
 have N1 : Hid (NumB W.heap.size (numL d) _) := Lib.hid g1
 clear hb1 g1
 go_upto_region 1 with fail
 change Code.wp _ _ _ _ (W.alloc (.cells (numL d).toArray 81))
 generalize W.alloc (.cells (numL d).toArray 81) = w0 at *
 have hrg := num_range N1.out
 have hsz10 : (Tryz.prog.info? 81).map (·.size) = some (numL d).length := by rw [info_numW, numL_len]
 obtain ⟨la, hla⟩ : ∃ la, la = numL d := ⟨_, rfl⟩
 rw [← hla] at hrg hsz10 HTW N1
 have HLA := Lib.hid hla
 clear hla
 go_wp2_with (refine wpList_load_mid rfl _ _ rfl W.heap.size 0 rfl la _ hrg Tryz.underlying81 rfl hsz10 ?_)
 refine (HTW.out _ HT.out).mono ?_
 rintro e w1 ⟨⟨t, rfl, htw, ht⟩, hB1⟩
 obtain ⟨m, s, hs, hm, hms⟩ : ∃ m s : Nat, s < 64 ∧ m < 10 ∧ t = 64 * m + s := ⟨t / 64, t % 64, by omega, by omega, by omega⟩
 have HHA := Lib.hid (fun w => halved_num d m s hs hm (by have := HH.out.1; have : (0 : Int) < HM := (by decide); omega) HH.out.2 w)
 rw [← hms, ← HLA.out] at HHA
 have HIN := Lib.hid (fun w => inverse_num (d / 2 ^ t) w)
 have n1 := N1.out.via hB1
 have hB1 := belowVia hB1 HB.out
 have hb2 := alloc_belowL w1 (.cells #[.int .i64 t] 3)
 have hc2 : (w1.alloc (.cells #[.int .i64 t] 3)).cell? ⟨w1.heap.size, 0, none⟩ = some (.int .i64 t) := (cell_of_row _ _ 0 _ _ _ (heap_alloc_new w1 (.cells #[.int .i64 t] 3))).trans rfl
 have n2 := n1.via hb2
 have hB2 := belowVia hb2 hB1
 have HTW2 := Lib.hid htw
 have HT2 := Lib.hid ht
 have hszL : ∀ l : List Value, l.length = 10 → (Tryz.prog.info? 81).map (·.size) = some l.length := fun l h => by rw [info_numW, h]
 have HN2 := Lib.hid n2
 have HB2 := Lib.hid hB2
 have HC2 := Lib.hid hc2
 have HSZ1 : Hid (W.heap.size ≤ w1.heap.size) := Lib.hid hB1.size
 clear htw ht hB1 n1 hb2 hm hs hms hB2 n2 hc2 hrg HTW HT
 go_upto_region 2 with fail
 generalize w1.alloc (.cells #[.int .i64 t] 3) = w2 at *
 generalize w1.heap.size = p1 at *
 have hrg := num_range HN2.out
 have hc2 := HC2.out
 obtain ⟨lv, hlv⟩ : ∃ lv, lv = numL (invN (d / 2 ^ t) 8) := ⟨_, rfl⟩
 have hv10 : lv.length = 10 := by rw [hlv]; rfl
 have hone : ∀ v ∈ lv, v.oneCell' = true := by rw [hlv]; exact numL_one _
 rw [← hlv] at HIN
 have HLV := Lib.hid hlv
 clear hlv
 generalize numL (d / 2 ^ t) = lh at *
 go_wp2_with (refine wpList_load_mid rfl _ _ rfl W.heap.size 0 rfl la _ hrg Tryz.underlying81 rfl hsz10 ?_)
 refine (HHA.out _).mono ?_
 rintro e w3 ⟨rfl, hB3⟩
 have hc3 := keptBelow hB3 hc2
 have hB3 := belowVia hB3 HB2.out
 clear hc2
 go_wp2_with fail
 refine (HIN.out _).mono ?_
 rintro e w4 ⟨rfl, hB4⟩
 have HC4 := Lib.hid (keptBelow hB4 hc3)
 have hB4 := belowVia hB4 hB3
 clear hc3
 have g5 : NumB w4.heap.size zeroL (w4.alloc (.cells zeroL.toArray 81)) := heap_alloc_new w4 (.cells zeroL.toArray 81)
 have hb5 := alloc_belowL w4 (.cells zeroL.toArray 81)
 have hst := store_num g5 rfl hv10 hone
 have HB5 := Lib.hid (below_setCells w4.heap.size hB4.size lv _ 0 (belowVia hb5 hB4))
 have HN6 : Hid (NumB w4.heap.size lv _) := Lib.hid (setCells_whole (cs := zeroL.toArray) lv (by rw [hv10]; rfl) g5)
 have HC6 : Hid (((w4.alloc (.cells zeroL.toArray 81)).setCells w4.heap.size 0 lv).cell? ⟨p1, 0, none⟩ = some (.int .i64 t)) := Lib.hid (by
  have h := keptBelow hb5 HC4.out
  have hlt := lt_of_cell HC4.out
  have e := setCells_other w4.heap.size lv (w4.alloc (.cells zeroL.toArray 81)) 0 p1 (by omega)
  rw [← h]; simp only [World.cell?, e])
 have HSZ4 := Lib.hid hB4.size
 change (storeCells ⟨w4.heap.size, 0, none⟩ lv 0).run Tryz.prog (w4.alloc (.cells #[.int .u64 0, .int .u64 0, .int .u64 0, .int .u64 0, .int .u64 0, .int .u64 0, .int .u64 0, .int .u64 0, .int .u64 0, .int .u64 0] 81)) = _ at hst
 clear hB4 hb5 g5 hone hszL hsz10
 generalize (w4.alloc (.cells zeroL.toArray 81)).setCells w4.heap.size 0 lv = w5 at *
 go_wp2_with fail
 go_ret
 refine ⟨⟨p1, w4.heap.size, rfl, HSZ1.out, HSZ4.out, ⟨t, HC6.out, HTW2.out, HT2.out, by rw [← HLV.out]; exact HN6.out⟩⟩, HB5.out⟩
set_option maxRecDepth 100000 in
set_option maxHeartbeats 1000000 in
/-- What dividing returns: exact division. -/
theorem divide_num (d q : Int) (g1 g2 : Nat) (h0 : -HM ≤ d * q) (h1 : d * q < HM) (W : World) (hD : DivBox d g1 g2 W) :
  Calls Tryz.prog 105 #[.agg (numL (d * q)).toArray, .pointer (some ⟨g1, 0, none⟩), .pointer (some ⟨g2, 0, none⟩)] W fun e w' => e = .returned (.agg (numL q).toArray) ∧ Below W.heap.size W w' := by
 obtain ⟨t, hc, ⟨x, htw⟩, ht, hn⟩ := hD.twos
 obtain ⟨m, s, hs, hm, hms⟩ : ∃ m s : Nat, s < 64 ∧ m < 10 ∧ t = 64 * m + s := ⟨t / 64, t % 64, by omega, by omega, by omega⟩
 have HHA := Lib.hid (fun w => halved_num (d * q) m s hs hm h0 h1 w)
 rw [← hms] at HHA
 have HTI := Lib.hid (fun w => times_num (d * q / 2 ^ t) (invN (d / 2 ^ t) 8) w)
 have he := div_exact (d := d) (q := q) htw
 rw [he] at HTI
 have hb1 := alloc_belowL W (.cells (numL (d * q)).toArray 81)
 have g1' := heap_alloc_new W (.cells (numL (d * q)).toArray 81)
 have hb2 := alloc_belowL (W.alloc (.cells (numL (d * q)).toArray 81)) (.cells zeroL.toArray 81)
 have g2' := heap_alloc_new (W.alloc (.cells (numL (d * q)).toArray 81)) (.cells zeroL.toArray 81)
 simp only [alloc_sizeL] at g2'
 have hBx := belowVia hb2 hb1
 have HB := Lib.hid hBx
 have HN1 : Hid (NumB W.heap.size (numL (d * q)) _) := Lib.hid (heap_belowL hb2 g1')
 have HN2 : Hid (NumB g2 (numL (invN (d / 2 ^ t) 8)) _) := Lib.hid (hn.via hBx)
 have HN3 : Hid (NumB (W.heap.size + 1) zeroL _) := Lib.hid g2'
 have HC := Lib.hid (keptBelow hBx hc)
 have hg2 : g2 < W.heap.size := (Array.getElem?_eq_some_iff.1 hn).1
 have HLQ := Lib.hid (numL_len q)
 have HOQ := Lib.hid (numL_one q)
 clear hD hc hn he htw ht hs hm hms h0 h1 hb1 g1' hb2 g2' hBx
 generalize hlq : numL q = lq at *
 have hs3 : (Tryz.prog.info? 81).map (·.size) = some lq.length := by rw [info_numW, ← hlq, numL_len]
 clear hlq
 go_enter Tryz.func105, Tryz.ntmps105
 go_upto_region 1 with fail
 change Code.wp _ _ _ _ ((W.alloc (.cells (numL (d * q)).toArray 81)).alloc (.cells zeroL.toArray 81))
 generalize (W.alloc (.cells (numL (d * q)).toArray 81)).alloc (.cells zeroL.toArray 81) = w0 at *
 have n1 := HN1.out
 have n2 := HN2.out
 have n3 := HN3.out
 have c1 := HC.out
 have hB := HB.out
 have hs1 : (Tryz.prog.info? 81).map (·.size) = some (numL (d * q)).length := by rw [info_numW, numL_len]
 have hs2 : (Tryz.prog.info? 81).map (·.size) = some (numL (invN (d / 2 ^ t) 8)).length := by rw [info_numW, numL_len]
 generalize numL (d * q) = la at *
 generalize numL (invN (d / 2 ^ t) 8) = lv at *
 generalize numL (d * q / 2 ^ t) = lh at *
 refine wp_region_K (fun w' => w'.rangeAt W.heap.size 0 la ∧ w'.cell? ⟨g1, 0, none⟩ = some (.int .i64 t) ∧ w'.rangeAt g2 0 lv) 5 (by kernel_rfl) ?_
 refine wpK_tk (i := 0) (d := some 5) rfl rfl (yieldsIf_load_mid (by rfl) _ _ rfl W.heap.size 0 rfl la _ (fun w h => h.1) Tryz.underlying81 rfl (by assumption)) ⟨num_range n1, c1, num_range n2⟩ ?_
 try simp only [Act.put, tA, tB, tC]
 refine wpK_tk (i := 1) (d := some 6) (v := ?_) rfl rfl (.inl ⟨by rfl, fun w hw => ?_⟩) ⟨num_range n1, c1, num_range n2⟩ ?_
 rotate_left
 ·(obtain ⟨_, hc, _⟩ := hw); go_simp; with_reducible rfl
 try simp only [Act.put, tA, tB, tC]
 refine wpK_tk (i := 3) (d := some 8) rfl rfl (yieldsIf_load_mid (by rfl) _ _ rfl g2 0 rfl lv _ (fun w h => h.2.2) Tryz.underlying81 rfl (by assumption)) ⟨num_range n1, c1, num_range n2⟩ ?_
 try simp only [Act.put, tA, tB, tC]
 refine wpK_one (i := 2) (by kernel_rfl) rfl rfl ?_
 go_simp
 refine (HHA.out _).mono ?_
 rintro e w1 ⟨rfl, hBw1⟩
 have n1 := (n1.via ((Below.refl _ _).drew)).via hBw1
 have n2 := (n2.via ((Below.refl _ _).drew)).via hBw1
 have n3 := (n3.via ((Below.refl _ _).drew)).via hBw1
 have c1 := keptBelow hBw1 (keptBelow ((Below.refl _ _).drew) c1)
 have hB := belowVia hBw1 (belowVia ((Below.refl _ _).drew) hB)
 refine ⟨⟨num_range n1, c1, num_range n2⟩, ?_⟩
 try simp only [Act.put, tA, tB, tC]
 refine wpK_one (i := 4) (by kernel_rfl) rfl rfl ?_
 go_simp
 refine (HTI.out _).mono ?_
 rintro e w2 ⟨rfl, hBw2⟩
 have n1 := n1.via hBw2
 have n2 := n2.via hBw2
 have n3 := n3.via hBw2
 have c1 := keptBelow hBw2 c1
 have hB := belowVia hBw2 hB
 refine ⟨⟨num_range n1, c1, num_range n2⟩, ?_⟩
 try simp only [Act.put, tA, tB, tC]
 refine wpK_store (i := 5) (by kernel_rfl) rfl rfl rfl (by kernel_rfl) (by kernel_rfl) _ _ _ rfl (W.heap.size + 1) 0 lq rfl rfl (by have := num_there n3; rw [HLQ.out]; exact this) hs3 HOQ.out ?_
 have HSW := Lib.hid (setCells_whole (cs := zeroL.toArray) lq (by rw [HLQ.out]; rfl) n3)
 have HXB := Lib.hid (below_setCells (W.heap.size + 1) (by omega) lq _ 0 hB)
 clear n1 n2 n3 c1 hB hs1 hs2 hs3 hBw1 hBw2
 go_wp2_with fail
 refine bodyPost_ret (results_num rfl _ _ (W.heap.size + 1) lq HLQ.out rfl HSW.out) rfl ?_
 exact ⟨rfl, HXB.out⟩
end Go.Proofs.YtofmjkgaaphnkaaGreatDoor
/- LinTabM: A table in memory, and what its changes keep. -/
namespace Go.Proofs.YtofmjkgaaphnkaaGreatDoor
open Go.RowKit Putlog

/-- Where the parts of a table lie. -/
structure Geo where
 T : Nat
 gc : Nat
 gr : Nat
 am : Option Addr
 cm : Nat
 cr : Nat
 rb : Nat → Nat
def rowOf (n : Nat) (R : Nat → Nat → Int) (k : Nat) : List Int := (List.range (n + 1)).map (R k)
def colOfA (n : Nat) (A : Nat → Nat → Int) (j : Nat) : List Int := (List.range n).map (A j)
theorem rowOf_len (n : Nat) (R : Nat → Nat → Int) (k : Nat) : (rowOf n R k).length = n + 1 := by simp [rowOf]
theorem rowOf_get {n : Nat} (R : Nat → Nat → Int) (k : Nat) {i : Nat} (h : i ≤ n) : (rowOf n R k).getD i 0 = R k i := by
 unfold rowOf; rw [List.getD_eq_getElem?_getD, List.getElem?_map, List.getElem?_range (by omega)]; rfl
theorem colOfA_len (n : Nat) (A : Nat → Nat → Int) (j : Nat) : (colOfA n A j).length = n := by simp [colOfA]
theorem colOfA_get {n : Nat} (A : Nat → Nat → Int) (j : Nat) {i : Nat} (h : i < n) : (colOfA n A j).getD i 0 = A j i := by
 unfold colOfA; rw [List.getD_eq_getElem?_getD, List.getElem?_map, List.getElem?_range h]; rfl
theorem rowOf_set {n : Nat} {R R' : Nat → Nat → Int} {k i : Nat} (hi : i ≤ n) (h : ∀ l, l ≤ n → R' k l = if l = i then R' k i else R k l) : (rowOf n R k).set i (R' k i) = rowOf n R' k := by
 apply List.ext_getElem?
 intro l
 rw [List.getElem?_set]
 by_cases e : i = l
 ·subst e
  rw [if_pos rfl, if_pos (by rw [rowOf_len]; omega)]
  unfold rowOf; rw [List.getElem?_map, List.getElem?_range (by omega)]; rfl
 ·rw [if_neg e]
  by_cases hl : l ≤ n
  ·unfold rowOf
   rw [List.getElem?_map, List.getElem?_map, List.getElem?_range (by omega)]
   show some (R k l) = some (R' k l)
   rw [h l hl, if_neg (fun x => e x.symm)]
  ·rw [List.getElem?_eq_none (by rw [rowOf_len]; omega), List.getElem?_eq_none (by rw [rowOf_len]; omega)]
theorem rowOf_congr {n : Nat} {R R' : Nat → Nat → Int} {k : Nat} (h : ∀ l, l ≤ n → R k l = R' k l) : rowOf n R k = rowOf n R' k := by
 unfold rowOf
 exact List.map_congr_left fun l hl => h l (by have := List.mem_range.1 hl; omega)
/-- What a row says of a column, as the program reckons it. -/
theorem dot_fall (n : Nat) (A : Nat → Nat → Int) (j : Nat) (R : Nat → Nat → Int) (k : Nat) : dotN (colOfA n A j) (rowOf n R k) n = fall n R (A j) k := by
 rw [dotN_sum]
 exact sumZ_congr fun i hi => by rw [colOfA_get _ _ hi, rowOf_get _ _ (by omega)]
structure TabM (w : World) (B n cols : Nat) (A : Nat → Nat → Int) (s : St) (G : Geo) : Prop where
 bT : B ≤ G.T
 bgc : G.gc < G.T
 bgr : G.T < G.gr
 cc : w.cell? ⟨G.T, 0, none⟩ = some (.slice (some ⟨G.gc, 0, none⟩) cols cols)
 cms : w.cell? ⟨G.T, 1, none⟩ = some (.slice G.am n G.cm)
 crs : w.cell? ⟨G.T, 2, none⟩ = some (.slice (some ⟨G.gr, 0, none⟩) (n + 1) G.cr)
 com : w.rangeAt G.T 3 (numL s.d)
 stl : w.cell? ⟨G.T, 13, none⟩ = some (.bool s.stalled)
 fz : ∀ i, w.frozen? ⟨G.T, i, none⟩ = false
 lcm : n ≤ G.cm ∧ (G.cm : Int) ≤ 9223372036854775807
 lcr : n + 1 ≤ G.cr ∧ (G.cr : Int) ≤ 9223372036854775807
 col : ∀ j, j < cols → ∃ a c, w.cell? ⟨G.gc, j, none⟩ = some (.slice a n c) ∧ n ≤ c ∧ (c : Int) ≤ 9223372036854775807 ∧ IntsFrom w a (colOfA n A j) ∧ ∀ p o, a = some ⟨p, o, none⟩ → p < G.T
 mem : n = 0 ∨ ∃ gm, G.am = some ⟨gm, 0, none⟩ ∧ G.T < gm ∧ gm ≠ G.gr ∧ (∀ k, k ≤ n → G.rb k ≠ gm) ∧ ∀ k, k < n → w.cell? ⟨gm, k, none⟩ = some (.int .i64 (s.mem k)) ∧ w.frozen? ⟨gm, k, none⟩ = false
 rows : ∀ k, k ≤ n → w.cell? ⟨G.gr, k, none⟩ = some (.slice (some ⟨G.rb k, 0, none⟩) (n + 1) (n + 1)) ∧ NumB (G.rb k) (rowL (rowOf n s.R k)) w ∧ G.T < G.rb k ∧ G.rb k ≠ G.gr
 inj : ∀ k m, k ≤ n → m ≤ n → G.rb k = G.rb m → k = m
variable {w w' : World} {B n cols : Nat} {A : Nat → Nat → Int} {s : St} {G : Geo}
theorem range_via {b o : Nat} {l : List Value} (h : w.rangeAt b o l) (hB : Below w.heap.size w w') : w'.rangeAt b o l := fun j v hv => keptBelow hB (h j v hv)
theorem TabM.via (h : TabM w B n cols A s G) (hB : Below w.heap.size w w') : TabM w' B n cols A s G where
 bT := h.bT
 bgc := h.bgc
 bgr := h.bgr
 cc := keptBelow hB h.cc
 cms := keptBelow hB h.cms
 crs := keptBelow hB h.crs
 com := range_via h.com hB
 stl := keptBelow hB h.stl
 fz := fun i => by
  have hlt := lt_of_cell h.cc
  have := hB.block G.T hlt
  rw [World.frozen?_of_block this]; exact h.fz i
 lcm := h.lcm
 lcr := h.lcr
 col := fun j hj => by
  obtain ⟨a, c, h1, h2, h3, h4, h5⟩ := h.col j hj
  exact ⟨a, c, keptBelow hB h1, h2, h3, h4.via hB, h5⟩
 mem := by
  rcases h.mem with h0 | ⟨gm, h1, h2, h3, h4, h5⟩
  ·exact .inl h0
  ·exact .inr ⟨gm, h1, h2, h3, h4, fun k hk => ⟨keptBelow hB (h5 k hk).1, by rw [World.frozen?_of_block (hB.block gm (lt_of_cell (h5 k hk).1))]; exact (h5 k hk).2⟩⟩
 rows := fun k hk => by
  obtain ⟨h1, h2, h3, h4⟩ := h.rows k hk
  exact ⟨keptBelow hB h1, h2.via hB, h3, h4⟩
 inj := h.inj
theorem OnlyAt.range {p b o : Nat} {l : List Value} (h : OnlyAt p w w') (hr : w.rangeAt b o l) (hne : b ≠ p) : w'.rangeAt b o l := fun j v hv => h.cell hne (hr j v hv)
theorem OnlyAt.ints {p : Nat} {a : Option Addr} {l : List Int} (h : OnlyAt p w w') (hi : IntsFrom w a l) (hne : ∀ b o, a = some ⟨b, o, none⟩ → b ≠ p) : IntsFrom w' a l := by
 rcases hi with h0 | ⟨b, o, h1, h2⟩
 ·exact .inl h0
 ·exact .inr ⟨b, o, h1, fun j hj => h.cell (hne b o h1) (h2 j hj)⟩
theorem OnlyAt.froz {p b i : Nat} (h : OnlyAt p w w') (hf : w.frozen? ⟨b, i, none⟩ = false) (hne : b ≠ p) : w'.frozen? ⟨b, i, none⟩ = false := by
 rw [World.frozen?_of_block (h.rest b hne)]; exact hf
/-- A block of no table has changed. -/
theorem TabM.via' (h : TabM w B n cols A s G) {T p : Nat} (hT : G.T = T) (hp : T < p) (ho : OnlyAt p w w') (hr : ∀ k, k ≤ n → G.rb k ≠ p) (hgr : G.gr ≠ p) (hm : n ≠ 0 → ∀ gm, G.am = some ⟨gm, 0, none⟩ → gm ≠ p) : TabM w' B n cols A s G := by
 subst hT
 have hbg := h.bgc
 refine ⟨h.bT, h.bgc, h.bgr, ho.cell (by omega) h.cc, ho.cell (by omega) h.cms, ho.cell (by omega) h.crs, ho.range h.com (by omega), ho.cell (by omega) h.stl, fun i => ho.froz (h.fz i) (by omega), h.lcm, h.lcr, ?_, ?_, ?_, h.inj⟩
 ·intro j hj
  obtain ⟨a, c, h1, h2, h3, h4, h5⟩ := h.col j hj
  exact ⟨a, c, ho.cell (by omega) h1, h2, h3, ho.ints h4 (fun b o e => by have := h5 b o e; omega), h5⟩
 ·by_cases hn : n = 0
  ·exact .inl hn
  rcases h.mem with h0 | ⟨gm, h1, h2, h3, h4, h5⟩
  ·exact .inl h0
  ·exact .inr ⟨gm, h1, h2, h3, h4, fun q hq => ⟨ho.cell (hm hn gm h1) (h5 q hq).1, ho.froz (h5 q hq).2 (hm hn gm h1)⟩⟩
 ·intro m hm'
  obtain ⟨q1, q2, q3, q4⟩ := h.rows m hm'
  exact ⟨ho.cell hgr q1, ho.num q2 (hr m hm'), q3, q4⟩
theorem TabM.lts (h : TabM w B n cols A s G) : G.T < w.heap.size ∧ G.gr < w.heap.size ∧ (∀ k, k ≤ n → G.rb k < w.heap.size) ∧ (n = 0 ∨ ∃ gm, G.am = some ⟨gm, 0, none⟩ ∧ gm < w.heap.size) := by
 refine ⟨lt_of_cell h.cc, lt_of_cell (h.rows 0 (by omega)).1, fun k hk => (Array.getElem?_eq_some_iff.1 (h.rows k hk).2.1).1, ?_⟩
 rcases h.mem with h0 | ⟨gm, h1, _, _, _, h5⟩
 ·exact .inl h0
 ·by_cases e : n = 0
  ·exact .inl e
  ·exact .inr ⟨gm, h1, lt_of_cell (h5 0 (by omega)).1⟩
/-- A younger block has changed. -/
theorem TabM.young {w0 : World} (h : TabM w B n cols A s G) (h0 : TabM w0 B n cols A s G) {p : Nat} (hp : w0.heap.size ≤ p) (ho : OnlyAt p w w') : TabM w' B n cols A s G := by
 obtain ⟨l1, l2, l3, l4⟩ := h0.lts
 refine h.via' rfl (p := p) (by omega) ho (fun k hk => by have := l3 k hk; omega) (by omega) (fun hn gm e => ?_)
 rcases l4 with x | ⟨g', e', hlt⟩
 ·exact absurd x hn
 ·rw [e'] at e; cases e; omega
/-- A row is changed. -/
theorem TabM.row (h : TabM w B n cols A s G) {k : Nat} (hk : k ≤ n) (ho : OnlyAt (G.rb k) w w') (R' : Nat → Nat → Int) (hR : ∀ m, m ≤ n → m ≠ k → ∀ l, l ≤ n → R' m l = s.R m l) (hrow : NumB (G.rb k) (rowL (rowOf n R' k)) w') :
  TabM w' B n cols A ⟨s.mem, R', s.d, s.stalled⟩ G := by
 obtain ⟨r1, r2, r3, r4⟩ := h.rows k hk
 have hT : G.T ≠ G.rb k := by omega
 have hbg := h.bgc
 refine ⟨h.bT, h.bgc, h.bgr, ho.cell hT h.cc, ho.cell hT h.cms, ho.cell hT h.crs, ho.range h.com hT, ho.cell hT h.stl, fun i => ho.froz (h.fz i) hT, h.lcm, h.lcr, ?_, ?_, ?_, h.inj⟩
 ·intro j hj
  obtain ⟨a, c, h1, h2, h3, h4, h5⟩ := h.col j hj
  exact ⟨a, c, ho.cell (by omega) h1, h2, h3, ho.ints h4 (fun b o e => by have := h5 b o e; omega), h5⟩
 ·rcases h.mem with h0 | ⟨gm, h1, h2, h3, h4, h5⟩
  ·exact .inl h0
  ·have hne : gm ≠ G.rb k := fun e => h4 k hk e.symm
   exact .inr ⟨gm, h1, h2, h3, h4, fun q hq => ⟨ho.cell hne (h5 q hq).1, ho.froz (h5 q hq).2 hne⟩⟩
 ·intro m hm
  obtain ⟨q1, q2, q3, q4⟩ := h.rows m hm
  refine ⟨ho.cell (fun e => r4 e.symm) q1, ?_, q3, q4⟩
  by_cases e : m = k
  ·subst e; exact hrow
  ·show NumB (G.rb m) (rowL (rowOf n R' m)) w'
   rw [rowOf_congr (R' := s.R) (fun l hl => hR m hm e l hl)]
   exact ho.num q2 (fun x => e (h.inj m k hm hk x))
/-- The mark is changed. -/
theorem TabM.mark (h : TabM w B n cols A s G) (b : Bool) : TabM (w.setCell ⟨G.T, 13, none⟩ (.bool b)) B n cols A ⟨s.mem, s.R, s.d, b⟩ G := by
 have ho : OnlyAt G.T w (w.setCell ⟨G.T, 13, none⟩ (.bool b)) := (OnlyAt.refl G.T w (lt_of_cell h.cc)).set 13 _
 have hc : ∀ i v, i ≠ 13 → w.cell? ⟨G.T, i, none⟩ = some v → (w.setCell ⟨G.T, 13, none⟩ (.bool b)).cell? ⟨G.T, i, none⟩ = some v := fun i v hi hv =>
  (World.cell?_setCell_other _ _ _ _ (by intro e; have := congrArg Addr.off e; dsimp only at this; omega)).trans hv
 have hbg := h.bgc
 have hbr := h.bgr
 refine ⟨h.bT, h.bgc, h.bgr, hc 0 _ (by decide) h.cc, hc 1 _ (by decide) h.cms, hc 2 _ (by decide) h.crs, ?_, World.cell?_setCell_same' _ _ _ (by rw [h.stl]; rfl), ?_, h.lcm, h.lcr, ?_, ?_, ?_, h.inj⟩
 ·intro j v hv
  have hj : j < 10 := by have := (List.getElem?_eq_some_iff.1 hv).1; rw [numL_len] at this; exact this
  exact hc (3 + j) v (by omega) (h.com j v hv)
 ·intro i
  rw [World.frozen?_setCell]; exact h.fz i
 ·intro j hj
  obtain ⟨a, c, h1, h2, h3, h4, h5⟩ := h.col j hj
  exact ⟨a, c, ho.cell (by omega) h1, h2, h3, ho.ints h4 (fun b o e => by have := h5 b o e; omega), h5⟩
 ·rcases h.mem with h0 | ⟨gm, h1, h2, h3, h4, h5⟩
  ·exact .inl h0
  ·exact .inr ⟨gm, h1, h2, h3, h4, fun q hq => ⟨ho.cell (by omega) (h5 q hq).1, ho.froz (h5 q hq).2 (by omega)⟩⟩
 ·intro m hm
  obtain ⟨q1, q2, q3, q4⟩ := h.rows m hm
  exact ⟨ho.cell (by omega) q1, ho.num q2 (by omega), q3, q4⟩
/-- A member and the common determinant are changed. -/
theorem TabM.last (h : TabM w B n cols A s G) {gm out : Nat} (ho : out < n) (hgm : G.am = some ⟨gm, 0, none⟩) (j d : Int) :
  TabM ((w.setCell ⟨gm, out, none⟩ (.int .i64 j)).setCells G.T 3 (numL d)) B n cols A ⟨pivM s.mem j out, s.R, d, s.stalled⟩ G := by
 obtain ⟨h2, h3, h4, h5⟩ : G.T < gm ∧ gm ≠ G.gr ∧ (∀ k, k ≤ n → G.rb k ≠ gm) ∧ ∀ k, k < n → w.cell? ⟨gm, k, none⟩ = some (.int .i64 (s.mem k)) ∧ w.frozen? ⟨gm, k, none⟩ = false := by
  rcases h.mem with h0 | ⟨g', h1, h2⟩
  ·omega
  ·rw [hgm] at h1; cases h1; exact h2
 have hgl : gm < w.heap.size := lt_of_cell (h5 out ho).1
 have o1 : OnlyAt gm w (w.setCell ⟨gm, out, none⟩ (.int .i64 j)) := (OnlyAt.refl gm w hgl).set out _
 have hTs : G.T < (w.setCell ⟨gm, out, none⟩ (.int .i64 j)).heap.size := by rw [World.size_setCell]; exact lt_of_cell h.cc
 have o2 : OnlyAt G.T (w.setCell ⟨gm, out, none⟩ (.int .i64 j)) ((w.setCell ⟨gm, out, none⟩ (.int .i64 j)).setCells G.T 3 (numL d)) := only_setCells _ _ _ _ _ (OnlyAt.refl _ _ hTs)
 have hTg : G.T ≠ gm := by omega
 have hc : ∀ i v, (i < 3 ∨ 13 ≤ i) → w.cell? ⟨G.T, i, none⟩ = some v → ((w.setCell ⟨gm, out, none⟩ (.int .i64 j)).setCells G.T 3 (numL d)).cell? ⟨G.T, i, none⟩ = some v := fun i v hi hv => by
  rw [World.cell?_setCells_out G.T (numL d) 3 _ ⟨G.T, i, none⟩ (fun _ _ => by
   rw [numL_len]
   rcases hi with hi | hi
   ·left; exact hi
   ·right; exact hi)]
  exact o1.cell hTg hv
 have two : ∀ b i v, b ≠ gm → b ≠ G.T → w.cell? ⟨b, i, none⟩ = some v → ((w.setCell ⟨gm, out, none⟩ (.int .i64 j)).setCells G.T 3 (numL d)).cell? ⟨b, i, none⟩ = some v := fun b i v e1 e2 hv => o2.cell e2 (o1.cell e1 hv)
 have hbg := h.bgc
 have hbr := h.bgr
 refine ⟨h.bT, h.bgc, h.bgr, hc 0 _ (.inl (by decide)) h.cc, hc 1 _ (.inl (by decide)) h.cms, hc 2 _ (.inl (by decide)) h.crs, ?_, hc 13 _ (.inr (by decide)) h.stl, ?_, h.lcm, h.lcr, ?_, ?_, ?_, h.inj⟩
 ·intro i v hv
  have hi : i < 10 := by have := (List.getElem?_eq_some_iff.1 hv).1; rw [numL_len] at this; exact this
  rw [World.cell?_setCells_in G.T (numL d) 3 _ (fun q hq => by
   have := h.com q (.int .u64 (wd s.d q)) (numL_get s.d (by rw [numL_len] at hq; exact hq))
   rw [o1.cell hTg this]; rfl) i (by rw [numL_len]; exact hi), ← hv, List.getElem?_eq_getElem]
 ·intro i
  rw [World.frozen?_setCells, World.frozen?_setCell]; exact h.fz i
 ·intro j' hj
  obtain ⟨a, c, q1, q2, q3, q4, q5⟩ := h.col j' hj
  refine ⟨a, c, two _ _ _ (by omega) (by omega) q1, q2, q3, ?_, q5⟩
  exact o2.ints (o1.ints q4 (fun b o e => by have := q5 b o e; omega)) (fun b o e => by have := q5 b o e; omega)
 ·refine .inr ⟨gm, hgm, h2, h3, h4, fun q hq => ⟨?_, ?_⟩⟩
  ·refine o2.cell (by omega) ?_
   show _ = some (Value.int .i64 (pivM s.mem j out q))
   unfold pivM
   by_cases e : q = out
   ·subst e; rw [if_pos rfl]; exact World.cell?_setCell_same' _ _ _ (by rw [(h5 q hq).1]; rfl)
   ·rw [if_neg e]
    exact (World.cell?_setCell_other _ _ _ _ (by intro x; have := congrArg Addr.off x; dsimp only at this; omega)).trans (h5 q hq).1
  ·rw [World.frozen?_setCells, World.frozen?_setCell]; exact (h5 q hq).2
 ·intro m hm
  obtain ⟨q1, q2, q3, q4⟩ := h.rows m hm
  exact ⟨two _ _ _ (fun e => h3 e.symm) (by omega) q1, o2.num (o1.num q2 (h4 m hm)) (by omega), q3, q4⟩
end Go.Proofs.YtofmjkgaaphnkaaGreatDoor
/- LinTextP: Plain mathematics of layer 6: a number's text, eighteen digits at a time. Nothing of the program. -/
namespace Putlog

theorem natV_app : ∀ a b : List UInt8, natV (a ++ b) = natV a * 10 ^ b.length + natV b
 | [], b => by
  have : natV [] = 0 := rfl
  rw [List.nil_append, this]; omega
 | c :: a, b => by
  rw [List.cons_append, natV_cons, natV_app a b, natV_cons, List.length_append, Nat.pow_add, Nat.add_mul]
  rw [Nat.mul_right_comm (10 ^ a.length), Nat.mul_comm (10 ^ a.length * (c.toNat - 48))]
  have : 10 ^ b.length * (10 ^ a.length * (c.toNat - 48)) = 10 ^ a.length * 10 ^ b.length * (c.toNat - 48) := by
   rw [← Nat.mul_assoc, Nat.mul_comm (10 ^ b.length)]
  rw [this, Nat.mul_right_comm]; omega
theorem natV_zeros : ∀ n : Nat, natV (List.replicate n 48) = 0
 | 0 => rfl
 | n + 1 => by rw [List.replicate_succ, natV_cons, natV_zeros n]; simp
def padT (m : Nat) : List UInt8 := List.replicate (18 - (natT m).length) 48 ++ natT m
theorem len18_le {m : Nat} (h : m < 10 ^ 18) : (natT m).length ≤ 18 := (natT_len m 18 (by decide)).2 h
theorem padT_len {m : Nat} (h : m < 10 ^ 18) : (padT m).length = 18 := by
 have := len18_le h
 simp [padT]; omega
theorem padT_val (m : Nat) : natV (padT m) = m := by rw [padT, natV_app, natV_zeros, natT_val]; omega
theorem padT_dig (m : Nat) : ∀ c ∈ padT m, IsDig c := fun c hc => by
 rcases List.mem_append.1 hc with h | h
 ·rw [(List.mem_replicate.1 h).2]; unfold IsDig; decide
 ·exact natT_dig m c h
/-- The last 18 * k digits, with zeros ahead. -/
def accT (z : Nat) : Nat → List UInt8
 | 0 => []
 | k + 1 => padT (z / (10 ^ 18) ^ k % 10 ^ 18) ++ accT z k
theorem accT_len (z : Nat) : ∀ k, (accT z k).length = 18 * k
 | 0 => rfl
 | k + 1 => by rw [accT, List.length_append, padT_len (Nat.mod_lt _ (by decide)), accT_len z k]; omega
theorem accT_dig (z : Nat) : ∀ k, ∀ c ∈ accT z k, IsDig c
 | 0 => fun c hc => by cases hc
 | k + 1 => fun c hc => by
  rcases List.mem_append.1 hc with h | h
  ·exact padT_dig _ c h
  ·exact accT_dig z k c h
theorem accT_val (z : Nat) : ∀ k, natV (accT z k) = z % (10 ^ 18) ^ k
 | 0 => by rw [Nat.pow_zero, Nat.mod_one]; rfl
 | k + 1 => by
  have e : 10 ^ (18 * k) = (10 ^ 18) ^ k := Nat.pow_mul 10 18 k
  rw [accT, natV_app, padT_val, accT_val z k, accT_len, e]
  generalize (10 ^ 18 : Nat) = B
  have e2 : B ^ (k + 1) = B ^ k * B := Nat.pow_succ ..
  rw [e2, Nat.mod_mul, Nat.mul_comm]
  omega
theorem natV_drop : ∀ l : List UInt8, natV (Go.Lib.trimLeftB l 48) = natV l
 | [] => rfl
 | c :: r => by
  unfold Go.Lib.trimLeftB
  rw [List.dropWhile_cons]
  split
  ·rename_i h
   have hc : c = 48 := by simpa using h
   have := natV_drop r
   unfold Go.Lib.trimLeftB at this
   rw [this, natV_cons, hc]; simp
  ·rfl
theorem text_whole {l : List UInt8} {n : Nat} (hd : ∀ c ∈ l, IsDig c) (hv : natV l = n) (hn : 0 < n) : Go.Lib.trimLeftB l 48 = natT n := by
 have h1 := natV_drop l
 have hsub : ∀ c ∈ Go.Lib.trimLeftB l 48, IsDig c := fun c hc => hd c ((List.dropWhile_sublist _).subset hc)
 have hne : Go.Lib.trimLeftB l 48 ≠ [] := fun e => by
  rw [e] at h1
  have : natV [] = 0 := rfl
  omega
 have hh : (Go.Lib.trimLeftB l 48).head? ≠ some 48 := fun e => by
  have := List.head?_dropWhile_not (p := fun c => c == 48) l
  unfold Go.Lib.trimLeftB at e
  rw [e] at this
  simp at this
 rw [← natT_natV hsub hne (.inr hh), h1, hv]
end Putlog
/- LinFmt: The contract of strconv's FormatUint at the base 10. -/
namespace Go.Proofs.YtofmjkgaaphnkaaGreatDoor
open Go.RowKit Putlog

set_option maxRecDepth 100000 in
set_option maxHeartbeats 2000000 in
theorem fmtIn_num (u : Nat) (hu : u < 18446744073709551616) (W : World) (hT : TabP W) :
  Calls Tryz.prog 117 #[.int .u64 u, .int .i64 10] W fun e w' => e = .returned (.string ⟨(natT u).toArray⟩) ∧ Below W.heap.size W w' := by
 rw [← decDigits_eq u u (Nat.le_refl _)]
 by_cases hs : u < 100
 ·have hS := Lib.hid (fun w => Tryz.internal_strconv_small u hs w)
  have hs' : (u : Int) < 100 := by omega
  clear hT hu
  go_enter Tryz.func117, Tryz.ntmps117
  go_wp2_with fail
  refine (hS.out _).mono ?_
  rintro e w1 ⟨rfl, rfl⟩
  go_wp2_with fail
  go_ret
  exact ⟨rfl, Below.refl _ _⟩
 ·have h100 : (100 : Int) ≤ u := by omega
  have hnd : Lib.nDigits u ≤ 20 := by have := Lib.numDigits_eq u (by omega) hu; split at this <;> omega
  obtain ⟨n, hn⟩ : ∃ n, n = Lib.nDigits u := ⟨_, rfl⟩
  have hND := Lib.hid (fun w (h : TabP w) => Tryz.internal_strconv_numDigits u (by omega) hu w h.tab)
  have hH0 := Lib.hid (Lib.holds_zero0 W 166 (Lib.nDigits u) (by omega))
  have hF := Tryz.internal_strconv_formatBase10 W.heap.size 0 24 u (Array.replicate (Lib.nDigits u) 0) (W.alloc (.cells Lib.zeros24 166)) hH0.out (by rw [Array.size_replicate]; exact Lib.lt_pow_nDigits u) hu (by rw [Array.size_replicate]; omega)
  rw [Array.size_replicate] at hF
  have HT1 := Lib.hid (hT.via (alloc_belowL W (.cells Lib.zeros24 166)))
  have HF := Lib.hid hF
  have HCV : Hid (∀ (W' : World) (dk : Array UInt8) (k v' : Nat), W' = (Go.Sort.putRow (fun (b : UInt8) => Value.int .u8 (b.toNat : Int)) (W.alloc (.cells Lib.zeros24 166)) W.heap.size 0 dk).drewN k → Lib.FmtInv (Lib.nDigits u) u 0 v' dk →
    (convert 121 9 (.slice (some ⟨W.heap.size, 0, none⟩) (Lib.nDigits u) 24)).run Tryz.prog W' = .ok (.string ⟨(Lib.decDigits u).toArray⟩) W' ∧ Below W.heap.size W W') := by
   rintro W' dk k v' rfl hI
   refine ⟨?_, ?_⟩
   ·have h := run_convert_bytes_back (P := Tryz.prog) ((Go.Sort.putRow (fun (b : UInt8) => Value.int .u8 (b.toNat : Int)) (W.alloc (.cells Lib.zeros24 166)) W.heap.size 0 dk).drewN k) 121 9 5 ⟨W.heap.size, 0, none⟩ 24 (Lib.decDigits u) Tryz.underlying121 Tryz.underlying5 Tryz.underlying9 (fun j hj => by
     rw [Lib.row_is_numeral hI j hj, Lib.add_plain, World.cell?_drewN]
     exact Go.Sort.cell?_putRow (fun (b : UInt8) => Value.int .u8 (b.toNat : Int)) _ W.heap.size 0 _ dk hH0.out (by rw [hI.size, Array.size_replicate]) j (by rw [hI.size]; rw [Lib.decDigits_length] at hj; exact hj))
    rw [Lib.decDigits_length] at h
    exact h
   ·obtain ⟨os, eo⟩ := Lib.fin_at W (.cells Lib.zeros24 166) dk k 0
    rw [eo]
    exact Lib.below_grow _ _ (Nat.le_refl _) _ _
  have hsl : ∀ W', (Instr.sliceAt 166 (.pointer (some ⟨W.heap.size, 0, none⟩)) none (some (.int .i64 (Lib.nDigits u : Nat))) none).run Tryz.prog W' = .ok (.slice (some ⟨W.heap.size, 0, none⟩) (Lib.nDigits u) 24) W' := fun W' => by
   have hal : Tryz.prog.arrayLen 166 = 24 := by kernel_rfl
   rw [run_sliceAt_array_h W' 166 ⟨W.heap.size, 0, none⟩ (by simp [Program.arrayLen, Program.elem, Tryz.underlying166]) .i64 (Lib.nDigits u : Nat) (by omega) (by rw [hal]; omega)]
   go_simp
  rw [← hn] at hnd hsl
  have hnd' : (n : Int) ≤ 20 := by omega
  simp only [← hn] at hND HF HCV
  clear hH0 hF hT hs hu hn
  go_enter Tryz.func117, Tryz.ntmps117
  go_wp2_with fail
  refine (hND.out _ HT1.out).mono ?_
  rintro e w1 ⟨rfl, rfl⟩
  go_wp2_with fail
  refine HF.out.mono ?_
  rintro e w2 ⟨rfl, k, v', dk, rfl, hI⟩
  obtain ⟨hcv, hB⟩ := HCV.out _ dk k v' rfl hI
  have HB := Lib.hid hB
  clear HCV HF hND hI hB
  generalize (Go.Sort.putRow (fun (b : UInt8) => Value.int .u8 (b.toNat : Int)) (W.alloc (.cells Lib.zeros24 166)) W.heap.size 0 dk).drewN k = w3 at *
  go_wp2_with fail
  go_ret
  exact ⟨rfl, HB.out⟩
set_option maxRecDepth 100000 in
set_option maxHeartbeats 1000000 in
theorem fmt_num (u : Nat) (hu : u < 18446744073709551616) (W : World) (hT : TabP W) :
  Calls Tryz.prog 97 #[.int .u64 u, .int .i64 10] W fun e w' => e = .returned (.string ⟨(natT u).toArray⟩) ∧ Below W.heap.size W w' := by
 have HF := Lib.hid (fmtIn_num u hu W hT)
 clear hT
 go_enter Tryz.func97, Tryz.ntmps97
 go_wp2_with fail
 refine HF.out.mono ?_
 rintro e w1 ⟨rfl, hB⟩
 go_wp2_with fail
 go_ret
 exact ⟨rfl, hB⟩
end Go.Proofs.YtofmjkgaaphnkaaGreatDoor
/- LinText: The contract of text: the integer that stands for a number. -/
namespace Go.Proofs.YtofmjkgaaphnkaaGreatDoor
open Go.RowKit Putlog

theorem eq_zero_num (z : Int) (h1 : -HM ≤ z) (h2 : z < HM) (w : World) : (Op.equalIn 10000 81 (.agg (numL z).toArray) (.agg #[.int .u64 0, .int .u64 0, .int .u64 0, .int .u64 0, .int .u64 0, .int .u64 0, .int .u64 0, .int .u64 0, .int .u64 0, .int .u64 0])).run Tryz.prog w = .ok (decide (z = 0)) w := by
 have heq := words_eq z 0 w
 rw [zero_words h1 h2, num_zero] at heq
 exact heq
def strLen : Value → Nat
 | .string s => s.size
 | _ => 0
theorem hm_digits (z : Nat) (h : (z : Int) < HM) : z / (10 ^ 18) ^ 11 = 0 := by
 refine Nat.div_eq_of_lt ?_
 have h2 : HM < ((10 ^ 18) ^ 11 : Nat) := by decide
 omega
theorem ba_app (a b : List UInt8) : (⟨a.toArray⟩ : ByteArray) ++ (⟨b.toArray⟩ : ByteArray) = ⟨(a ++ b).toArray⟩ := by
 apply ByteArray.ext; simp
theorem repeat_one (x : UInt8) : ∀ c, Lib.repeatL [x] c = List.replicate c x
 | 0 => rfl
 | c + 1 => by rw [Lib.repeatL, repeat_one x c, List.replicate_succ]; rfl
set_option maxRecDepth 100000 in
set_option maxHeartbeats 1000000 in
theorem text_pos (z : Nat) (h0 : 0 < z) (h1 : (z : Int) < HM) (W : World) (hT : TabP W) :
  Calls Tryz.prog 72 #[.agg (numL z).toArray] W fun e w' => e = .returned (.string ⟨(natT z).toArray⟩) ∧ Below W.heap.size W w' := by
 have HSG := Lib.hid (fun w => sign_num z (by have : (0 : Int) ≤ HM := (by decide); omega) h1 w)
 rw [show sgnZ z = 1 by unfold sgnZ; rw [if_neg (by omega), if_neg (by omega)]] at HSG
 have hb1 := alloc_belowL W (.cells (numL z).toArray 81)
 have g1 := heap_alloc_new W (.cells (numL z).toArray 81)
 have hlen := numL_len z
 have HLEN := Lib.hid hlen
 have HZ := Lib.hid (And.intro h0 h1)
 have HTT := Lib.hid hT
 have HNUM : Hid (numL ((z / (10 ^ 18) ^ 0 : Nat) : Int) = numL z) := by show _ = _; rw [Nat.pow_zero, Nat.div_one]
 clear h0 h1 hT
 go_enter Tryz.func72, Tryz.ntmps72
 have HB := Lib.hid hb1
 have N1 : Hid (NumB W.heap.size (numL z) _) := Lib.hid g1
 clear hb1 g1
 go_upto_region 1 with fail
 change Code.wp _ _ _ _ (W.alloc (.cells (numL z).toArray 81))
 generalize W.alloc (.cells (numL z).toArray 81) = w0 at *
 have hrg := num_range N1.out
 have hsz10 : (Tryz.prog.info? 81).map (·.size) = some (numL z).length := by rw [info_numW, HLEN.out]
 rw [← HNUM.out] at N1
 generalize numL z = lz at *
 go_wp2_with (refine wpList_load_mid rfl _ _ rfl W.heap.size 0 rfl lz _ hrg Tryz.underlying81 rfl hsz10 ?_)
 refine (HSG.out _).mono ?_
 rintro e w1 ⟨rfl, hB⟩
 have N1 := Lib.hid (N1.out.via hB)
 have HB := Lib.hid (belowVia hB HB.out)
 clear hB HSG hrg hsz10 hlen HLEN HNUM
 go_wp2_with fail
 go_loopw [3, 4] (fun t d wr => ∃ k : Nat, k ≤ 11 ∧ t = .string ⟨(accT z k).toArray⟩ ∧ NumB W.heap.size (numL ((z / (10 ^ 18) ^ k : Nat) : Int)) wr ∧ Below W.heap.size W wr) (fun t _ _ => 300 - strLen t)
 case atStart => exact ⟨0, by omega, rfl, N1.out, HB.out⟩
 case round =>
  clear N1 HB
  obtain ⟨k, hk, rfl, n1, hB⟩ := hrel
  have N1 := Lib.hid n1
  have HB := Lib.hid hB
  clear n1 hB
  obtain ⟨q, hq⟩ : ∃ q : Nat, q = z / (10 ^ 18) ^ k := ⟨_, rfl⟩
  rw [← hq] at N1
  have hqz : q ≤ z := by rw [hq]; exact Nat.div_le_self _ _
  have hm0 : (0 : Int) ≤ HM := by decide
  have hq1 : (q : Int) < HM := by have := HZ.out.2; omega
  have hq0 : -HM ≤ (q : Int) := by omega
  have heq := fun w => eq_zero_num _ hq0 hq1 w
  have hrg := num_range N1.out
  have hsz10 : (Tryz.prog.info? 81).map (·.size) = some (numL (q : Int)).length := by rw [info_numW, numL_len]
  by_cases h0 : q = 0
  ·have hv : natV (accT z k) = z := by
    rw [accT_val]
    have hp : 0 < (10 ^ 18) ^ k := Nat.pow_pos (by decide)
    exact Nat.mod_eq_of_lt ((Nat.div_eq_zero_iff_lt hp).1 (by rw [← hq]; exact h0))
   have hw := text_whole (accT_dig z k) hv HZ.out.1
   have HTL := Lib.hid (fun w => Tryz.strings_TrimLeft_one ⟨(accT z k).toArray⟩ 48 (by decide) w)
   have HTL : Hid (∀ w, Calls Tryz.prog 100 #[.string ⟨(accT z k).toArray⟩, .string ⟨#[48]⟩] w fun e w' => e = .returned (.string ⟨(natT z).toArray⟩) ∧ w' = w) := fun w => by
    have h := HTL.out w
    rw [List.toList_toArray, hw] at h
    exact h
   rw [decide_eq_true (by omega)] at heq
   clear hv hw hq0 hq1 h0 hq hqz hm0
   generalize numL (q : Int) = l2 at *
   go_wp2_with (refine wpList_load_mid rfl _ _ rfl W.heap.size 0 rfl l2 _ hrg Tryz.underlying81 rfl hsz10 ?_)
   refine (HTL.out _).mono ?_
   rintro e w2 ⟨rfl, rfl⟩
   go_wp2_with fail
   go_ret
   exact ⟨rfl, HB.out⟩
  ·rw [decide_eq_false (by omega)] at heq
   have hk11 : k < 11 := by
    rcases Nat.lt_or_ge k 11 with h | h
    ·exact h
    ·obtain rfl : k = 11 := by omega
     exact absurd (hq.trans (hm_digits z HZ.out.2)) h0
   have hHW : HM ≤ WB ^ 10 := by decide
   have HSP := Lib.hid (fun w hz => split_num (q : Int) W.heap.size (by omega) (Int.lt_of_lt_of_le hq1 hHW) w hz)
   obtain ⟨m, hm⟩ : ∃ m : Nat, m = q % 10 ^ 18 := ⟨_, rfl⟩
   have hmi : (q : Int) % D18 = (m : Nat) := by rw [hm]; unfold D18; omega
   have hqi : (q : Int) / D18 = ((z / (10 ^ 18) ^ (k + 1) : Nat) : Int) := by
    rw [Nat.pow_succ (10 ^ 18) k, ← Nat.div_div_eq_div_mul, ← hq]; unfold D18; omega
   rw [hmi, hqi] at HSP
   have hmb : m < 10 ^ 18 := by rw [hm]; exact Nat.mod_lt _ (by decide)
   have HFM := Lib.hid (fun w h => fmt_num m (Nat.lt_trans hmb (by decide)) w h)
   have hln := len18_le hmb
   obtain ⟨dg, hdg⟩ : ∃ dg : ByteArray, dg = ⟨(natT m).toArray⟩ := ⟨_, rfl⟩
   have hds : dg.size = (natT m).length := by rw [hdg]; show (natT m).toArray.size = _; simp
   obtain ⟨c, hc⟩ : ∃ c : Nat, c = 18 - dg.size := ⟨_, rfl⟩
   have hci : (18 : Int) - dg.size = (c : Nat) := by omega
   have hcb : c ≤ 18 := by omega
   have HRP := Lib.hid (fun w => Tryz.strings_Repeat ⟨#[48]⟩ c w (by omega) (by show 1 * c ≤ _; omega))
   obtain ⟨pd, hpd⟩ : ∃ pd : ByteArray, pd = ⟨(Lib.repeatL [48] c).toArray⟩ := ⟨_, rfl⟩
   have HRP : Hid (∀ w, Calls Tryz.prog 99 #[.string ⟨#[48]⟩, .int .i64 c] w fun e w' => e = .returned (.string pd) ∧ Below w.heap.size w w') := fun w => by rw [hpd]; exact HRP.out w
   have HNX : Hid (pd ++ dg ++ ⟨(accT z k).toArray⟩ = (⟨(accT z (k + 1)).toArray⟩ : ByteArray)) := by
    show _ = _
    rw [hpd, hdg, ba_app, ba_app, accT, ← hq, ← hm, padT, ← hds, ← hc]
    rw [repeat_one]
   rw [← hdg] at HFM
   have hdb : (dg.size : Int) ≤ 18 := by omega
   have hlx : strLen (.string ⟨(accT z k).toArray⟩) = 18 * k := by show (accT z k).toArray.size = _; rw [List.size_toArray, accT_len]
   have hly : strLen (.string ⟨(accT z (k + 1)).toArray⟩) = 18 * (k + 1) := by show (accT z (k + 1)).toArray.size = _; rw [List.size_toArray, accT_len]
   have hpb : pd.size ≤ 18 := by
    rw [hpd]; show (Lib.repeatL [48] c).toArray.size ≤ 18
    rw [List.size_toArray, repeat_one, List.length_replicate]; exact hcb
   have hz1 : ¬ 9223372036854775807 < pd.size + dg.size := by omega
   have hz2 : ¬ 9223372036854775807 < pd.size + dg.size + (accT z k).length := by rw [accT_len]; omega
   have HLX := Lib.hid hlx
   have HLY := Lib.hid hly
   clear hq0 hq1 h0 hq hqz hm0 hHW hm hmi hqi hmb hln hdg hds hc hcb hpd hlx hly hpb
   obtain ⟨l2, hl2⟩ : ∃ l2, l2 = numL (q : Int) := ⟨_, rfl⟩
   rw [← hl2] at heq hrg hsz10 N1 HSP
   clear hl2
   obtain ⟨q2, hq2⟩ : ∃ q2, q2 = z / (10 ^ 18) ^ (k + 1) := ⟨_, rfl⟩
   rw [← hq2] at HSP
   have HQ2 := Lib.hid hq2
   clear hq2
   go_wp2_with (refine wpList_load_mid rfl _ _ rfl W.heap.size 0 rfl l2 _ hrg Tryz.underlying81 rfl hsz10 ?_)
   refine (HSP.out _ N1.out).mono ?_
   rintro e w2 ⟨rfl, nn, ho⟩
   have N2 := Lib.hid nn
   have HB2 := Lib.hid (ho.below HB.out (Nat.le_refl _))
   have HT2 := HTT.out.via HB2.out
   clear nn ho HSP N1 HB hrg heq hsz10
   go_wp2_with fail
   refine (HFM.out _ HT2).mono ?_
   rintro e w3 ⟨rfl, hB⟩
   have N3 := Lib.hid (N2.out.via hB)
   have HB3 := Lib.hid (belowVia hB HB2.out)
   clear hB N2 HB2 HT2 HFM
   go_wp2_with fail
   refine (HRP.out _).mono ?_
   rintro e w4 ⟨rfl, hB⟩
   have N4 := Lib.hid (N3.out.via hB)
   have HB4 := Lib.hid (belowVia hB HB3.out)
   clear hB N3 HB3 HRP
   go_wp2_with fail
   rw [HNX.out]
   exact ⟨⟨k + 1, by omega, rfl, by rw [← HQ2.out]; exact N4.out, HB4.out⟩, by rw [HLX.out, HLY.out]; omega⟩
set_option maxRecDepth 100000 in
set_option maxHeartbeats 1000000 in
theorem text_num (z : Int) (h0 : -HM < z) (h1 : z < HM) (W : World) (hT : TabP W) :
  Calls Tryz.prog 72 #[.agg (numL z).toArray] W fun e w' => e = .returned (.string (intB z)) ∧ Below W.heap.size W w' := by
 rcases Int.lt_trichotomy z 0 with hz | hz | hz
 ·have HSG := Lib.hid (fun w => sign_num z (by omega) h1 w)
  rw [show sgnZ z = -1 by unfold sgnZ; rw [if_neg (by omega), if_pos hz]] at HSG
  have HMI := Lib.hid (fun w => minus_num 0 z w)
  rw [show (0 : Int) - z = ((z.natAbs : Nat) : Int) by omega, num_zero] at HMI
  have HTX := Lib.hid (fun w h => text_pos z.natAbs (by omega) (by omega) w h)
  have hx : (⟨#[45]⟩ : ByteArray) ++ ⟨(natT z.natAbs).toArray⟩ = intB z := by
   have e : intB z = ⟨(intT z).toArray⟩ := rfl
   rw [e]; unfold intT; rw [if_pos hz]
   exact ba_app [45] (natT z.natAbs)
  have hsz : (natT z.natAbs).length ≤ 200 := by
   refine (natT_len z.natAbs 200 (by decide)).2 ?_
   have h2 : HM < ((10 ^ 200 : Nat) : Int) := by decide
   omega
  have hb1 := alloc_belowL W (.cells (numL z).toArray 81)
  have g1 := heap_alloc_new W (.cells (numL z).toArray 81)
  have HLEN := Lib.hid (numL_len z)
  have HTT := Lib.hid hT
  clear h0 h1 hz hT
  go_enter Tryz.func72, Tryz.ntmps72
  have HB := Lib.hid hb1
  have N1 : Hid (NumB W.heap.size (numL z) _) := Lib.hid g1
  clear hb1 g1
  go_upto_region 1 with fail
  change Code.wp _ _ _ _ (W.alloc (.cells (numL z).toArray 81))
  generalize W.alloc (.cells (numL z).toArray 81) = w0 at *
  have hrg := num_range N1.out
  have hsz10 : (Tryz.prog.info? 81).map (·.size) = some (numL z).length := by rw [info_numW, HLEN.out]
  generalize numL z = lz at *
  go_wp2_with (refine wpList_load_mid rfl _ _ rfl W.heap.size 0 rfl lz _ hrg Tryz.underlying81 rfl hsz10 ?_)
  refine (HSG.out _).mono ?_
  rintro e w1 ⟨rfl, hB⟩
  have N1 := Lib.hid (N1.out.via hB)
  have HB := Lib.hid (belowVia hB HB.out)
  clear hB HSG hrg
  have hrg := num_range N1.out
  generalize numL ((z.natAbs : Nat) : Int) = l2 at *
  generalize natT z.natAbs = tn at *
  go_wp2_with (refine wpList_load_mid rfl _ _ rfl W.heap.size 0 rfl lz _ hrg Tryz.underlying81 rfl hsz10 ?_)
  refine (HMI.out _).mono ?_
  rintro e w2 ⟨rfl, hB⟩
  have HB := Lib.hid (belowVia hB HB.out)
  clear hB hrg hsz10 N1 HLEN
  have hT2 := HTT.out.via HB.out
  go_wp2_with fail
  refine (HTX.out _ hT2).mono ?_
  rintro e w3 ⟨rfl, hB⟩
  have HB := Lib.hid (belowVia hB HB.out)
  clear hB
  have hx2 : ¬ 9223372036854775807 < 1 + tn.length := by omega
  have HXX := Lib.hid hx
  clear hx
  go_wp2_with fail
  go_ret
  exact ⟨by rw [← HXX.out]; rfl, HB.out⟩
 ·subst hz
  have HSG := Lib.hid (fun w => sign_num 0 (by omega) h1 w)
  rw [show sgnZ 0 = 0 from rfl] at HSG
  have hb1 := alloc_belowL W (.cells (numL 0).toArray 81)
  have g1 := heap_alloc_new W (.cells (numL 0).toArray 81)
  have HLEN := Lib.hid (numL_len 0)
  clear h0 h1 hT
  go_enter Tryz.func72, Tryz.ntmps72
  have HB := Lib.hid hb1
  have N1 : Hid (NumB W.heap.size (numL 0) _) := Lib.hid g1
  clear hb1 g1
  go_upto_region 1 with fail
  change Code.wp _ _ _ _ (W.alloc (.cells (numL 0).toArray 81))
  generalize W.alloc (.cells (numL 0).toArray 81) = w0 at *
  have hrg := num_range N1.out
  have hsz10 : (Tryz.prog.info? 81).map (·.size) = some (numL 0).length := by rw [info_numW, HLEN.out]
  generalize numL 0 = lz at *
  go_wp2_with (refine wpList_load_mid rfl _ _ rfl W.heap.size 0 rfl lz _ hrg Tryz.underlying81 rfl hsz10 ?_)
  refine (HSG.out _).mono ?_
  rintro e w1 ⟨rfl, hB⟩
  have HB := Lib.hid (belowVia hB HB.out)
  clear hB HSG hrg hsz10 N1 HLEN
  go_wp2_with fail
  go_ret
  exact ⟨rfl, HB.out⟩
 ·have e1 : z = ((z.natAbs : Nat) : Int) := by omega
  have h := text_pos z.natAbs (by omega) (by omega) W hT
  rw [← e1] at h
  have e2 : intB z = ⟨(natT z.natAbs).toArray⟩ := by
   show (⟨(intT z).toArray⟩ : ByteArray) = _
   unfold intT; rw [if_neg (by omega)]
  rw [e2]; exact h
end Go.Proofs.YtofmjkgaaphnkaaGreatDoor
