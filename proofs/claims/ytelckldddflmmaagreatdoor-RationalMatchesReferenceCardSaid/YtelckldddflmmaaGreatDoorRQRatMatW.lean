/- RationalMatchesReference: what the law's body answers. -/
import Derived.Test.YtelckldddflmmaaGreatDoorRQ1
import Derived.Test.YtelckldddflmmaaGreatDoorRM6
namespace Go.Proofs.YtelckldddflmmaaGreatDoor
open Go.RowKit Putlog

theorem s15K {v w w1 : World} {a b c d e : Nat} {z0 z1 z2 z3 z4 z5 z6 z7 z8 z9 z10 z11 z12 z13 : Value} (h : w.cell? ⟨a, 0, none⟩ = some z0 ∧ w.cell? ⟨a, 1, none⟩ = some z1 ∧ w.cell? ⟨b, 0, none⟩ = some z2 ∧ w.cell? ⟨b, 1, none⟩ = some z3 ∧ w.cell? ⟨c, 0, none⟩ = some z4 ∧ w.cell? ⟨c, 1, none⟩ = some z5 ∧ w.cell? ⟨c, 2, none⟩ = some z6 ∧ w.cell? ⟨c, 3, none⟩ = some z7 ∧ w.cell? ⟨d, 0, none⟩ = some z8 ∧ w.cell? ⟨d, 1, none⟩ = some z9 ∧ w.cell? ⟨d, 2, none⟩ = some z10 ∧ w.cell? ⟨d, 3, none⟩ = some z11 ∧ w.cell? ⟨e, 0, none⟩ = some z12 ∧ w.cell? ⟨e, 1, none⟩ = some z13 ∧ Below v.heap.size v w) (hB : Below w.heap.size w w1) : w1.cell? ⟨a, 0, none⟩ = some z0 ∧ w1.cell? ⟨a, 1, none⟩ = some z1 ∧ w1.cell? ⟨b, 0, none⟩ = some z2 ∧ w1.cell? ⟨b, 1, none⟩ = some z3 ∧ w1.cell? ⟨c, 0, none⟩ = some z4 ∧ w1.cell? ⟨c, 1, none⟩ = some z5 ∧ w1.cell? ⟨c, 2, none⟩ = some z6 ∧ w1.cell? ⟨c, 3, none⟩ = some z7 ∧ w1.cell? ⟨d, 0, none⟩ = some z8 ∧ w1.cell? ⟨d, 1, none⟩ = some z9 ∧ w1.cell? ⟨d, 2, none⟩ = some z10 ∧ w1.cell? ⟨d, 3, none⟩ = some z11 ∧ w1.cell? ⟨e, 0, none⟩ = some z12 ∧ w1.cell? ⟨e, 1, none⟩ = some z13 ∧ Below v.heap.size v w1 := by
  obtain ⟨h0, h1, h2, h3, h4, h5, h6, h7, h8, h9, h10, h11, h12, h13, h⟩ := h
  exact ⟨keptBelow hB h0, keptBelow hB h1, keptBelow hB h2, keptBelow hB h3, keptBelow hB h4, keptBelow hB h5, keptBelow hB h6, keptBelow hB h7, keptBelow hB h8, keptBelow hB h9, keptBelow hB h10, keptBelow hB h11, keptBelow hB h12, keptBelow hB h13, belowVia hB h⟩
set_option maxRecDepth 100000 in
set_option maxHeartbeats 16000000 in
theorem Mat_calls (x x' y y' : ByteArray) (l0 l1 l2 l3 m0 m1 m2 m3 s0 s1 nn dd places : Int) (W : World) (hx : Sized x) (hx' : Sized x') (hy : Sized y) (hy' : Sized y') (hl0 : I64 l0) (hl1 : I64 l1) (hl2 : I64 l2) (hl3 : I64 l3) (hm0 : I64 m0) (hm1 : I64 m1) (hm2 : I64 m2) (hm3 : I64 m3) (hs0 : I64 s0) (hs1 : I64 s1) (hn : I64 nn) (hd : I64 dd) (hp : I64 places) (hT : TabP W) :
    Calls Tryz.prog 3 #[.agg #[.string x, .string x'], .agg #[.string y, .string y'], .agg #[.int .i64 l0, .int .i64 l1, .int .i64 l2, .int .i64 l3], .agg #[.int .i64 m0, .int .i64 m1, .int .i64 m2, .int .i64 m3], .agg #[.int .i64 s0, .int .i64 s1], .int .i64 nn, .int .i64 dd, .int .i64 places] W fun e w' => e = .returned (.bool true) ∧ Below W.heap.size W w' := by
  have HLL := Lib.hid (fun W => long_q l0 l1 l2 l3 hl0 hl1 hl2 hl3 W)
  have HLM := Lib.hid (fun W => long_q m0 m1 m2 m3 hm0 hm1 hm2 hm3 W)
  have HSS := Lib.hid (fun W => small_q s0 s1 hs0 hs1 W)
  have HCX := Lib.hid (fun W => lcut_q x x' hx hx' W)
  have HCY := Lib.hid (fun W => lcut_q y y' hy hy' W)
  have ZX1 := Lib.hid (cutB_sized 210 (by decide) x)
  have ZX2 := Lib.hid (cutB_sized 210 (by decide) x')
  have ZY1 := Lib.hid (cutB_sized 210 (by decide) y)
  have ZY2 := Lib.hid (cutB_sized 210 (by decide) y')
  have HPK := Lib.hid (fun w => pick_q places 32 hp.1 hp.2 (by decide) (by decide) w)
  have HOF := Lib.hid (fun W hT => of_q nn dd hn.1 hn.2 hd.1 hd.2 W hT)
  have HRO := Lib.hid (fun W => rof_q nn dd hn.1 hn.2 hd.1 hd.2 W)
  have HT := Lib.hid hT
  generalize cutB 210 x = xa at *
  generalize cutB 210 x' = xb at *
  generalize cutB 210 y = ya at *
  generalize cutB 210 y' = yb at *
  generalize pickN places 32 = pp at *
  generalize makeQ (some nn) (some dd) = oo at *
  clear hx hx' hy hy' hl0 hl1 hl2 hl3 hm0 hm1 hm2 hm3 hs0 hs1 hn hd hp hT
  go_enter Tryz.func3, Tryz.ntmps3
  go_wp2_with fail
  have HW : Hid (Below W.heap.size W (((((W.alloc (.cells #[.string x, .string x'] 23)).alloc (.cells #[.string y, .string y'] 23)).alloc (.cells #[.int .i64 l0, .int .i64 l1, .int .i64 l2, .int .i64 l3] 24)).alloc (.cells #[.int .i64 m0, .int .i64 m1, .int .i64 m2, .int .i64 m3] 24)).alloc (.cells #[.int .i64 s0, .int .i64 s1] 25))) := Lib.hid (belowVia (alloc_below _ _) (belowVia (alloc_below _ _) (belowVia (alloc_below _ _) (belowVia (alloc_below _ _) (alloc_below W _)))))
  have hA0 : (W.alloc (.cells #[.string x, .string x'] 23)).heap[W.heap.size]? = some (.cells #[.string x, .string x'] 23 (0, 0)) := (heap_alloc_new W (.cells #[.string x, .string x'] 23))
  have hA0 := heap_below (alloc_below (W.alloc (.cells #[.string x, .string x'] 23)) (.cells #[.string y, .string y'] 23)) hA0
  have hA0 := heap_below (alloc_below ((W.alloc (.cells #[.string x, .string x'] 23)).alloc (.cells #[.string y, .string y'] 23)) (.cells #[.int .i64 l0, .int .i64 l1, .int .i64 l2, .int .i64 l3] 24)) hA0
  have hA0 := heap_below (alloc_below (((W.alloc (.cells #[.string x, .string x'] 23)).alloc (.cells #[.string y, .string y'] 23)).alloc (.cells #[.int .i64 l0, .int .i64 l1, .int .i64 l2, .int .i64 l3] 24)) (.cells #[.int .i64 m0, .int .i64 m1, .int .i64 m2, .int .i64 m3] 24)) hA0
  have hA0 := heap_below (alloc_below ((((W.alloc (.cells #[.string x, .string x'] 23)).alloc (.cells #[.string y, .string y'] 23)).alloc (.cells #[.int .i64 l0, .int .i64 l1, .int .i64 l2, .int .i64 l3] 24)).alloc (.cells #[.int .i64 m0, .int .i64 m1, .int .i64 m2, .int .i64 m3] 24)) (.cells #[.int .i64 s0, .int .i64 s1] 25)) hA0
  have RX := Lib.hid hA0
  have hA1 : ((W.alloc (.cells #[.string x, .string x'] 23)).alloc (.cells #[.string y, .string y'] 23)).heap[(W.heap.size + 1)]? = some (.cells #[.string y, .string y'] 23 (0, 0)) := (by have h := heap_alloc_new (W.alloc (.cells #[.string x, .string x'] 23)) (.cells #[.string y, .string y'] 23); rwa [show (W.alloc (.cells #[.string x, .string x'] 23)).heap.size = (W.heap.size + 1) by simp] at h)
  have hA1 := heap_below (alloc_below ((W.alloc (.cells #[.string x, .string x'] 23)).alloc (.cells #[.string y, .string y'] 23)) (.cells #[.int .i64 l0, .int .i64 l1, .int .i64 l2, .int .i64 l3] 24)) hA1
  have hA1 := heap_below (alloc_below (((W.alloc (.cells #[.string x, .string x'] 23)).alloc (.cells #[.string y, .string y'] 23)).alloc (.cells #[.int .i64 l0, .int .i64 l1, .int .i64 l2, .int .i64 l3] 24)) (.cells #[.int .i64 m0, .int .i64 m1, .int .i64 m2, .int .i64 m3] 24)) hA1
  have hA1 := heap_below (alloc_below ((((W.alloc (.cells #[.string x, .string x'] 23)).alloc (.cells #[.string y, .string y'] 23)).alloc (.cells #[.int .i64 l0, .int .i64 l1, .int .i64 l2, .int .i64 l3] 24)).alloc (.cells #[.int .i64 m0, .int .i64 m1, .int .i64 m2, .int .i64 m3] 24)) (.cells #[.int .i64 s0, .int .i64 s1] 25)) hA1
  have RY := Lib.hid hA1
  have hA2 : (((W.alloc (.cells #[.string x, .string x'] 23)).alloc (.cells #[.string y, .string y'] 23)).alloc (.cells #[.int .i64 l0, .int .i64 l1, .int .i64 l2, .int .i64 l3] 24)).heap[(W.heap.size + 1 + 1)]? = some (.cells #[.int .i64 l0, .int .i64 l1, .int .i64 l2, .int .i64 l3] 24 (0, 0)) := (by have h := heap_alloc_new ((W.alloc (.cells #[.string x, .string x'] 23)).alloc (.cells #[.string y, .string y'] 23)) (.cells #[.int .i64 l0, .int .i64 l1, .int .i64 l2, .int .i64 l3] 24); rwa [show ((W.alloc (.cells #[.string x, .string x'] 23)).alloc (.cells #[.string y, .string y'] 23)).heap.size = (W.heap.size + 1 + 1) by simp] at h)
  have hA2 := heap_below (alloc_below (((W.alloc (.cells #[.string x, .string x'] 23)).alloc (.cells #[.string y, .string y'] 23)).alloc (.cells #[.int .i64 l0, .int .i64 l1, .int .i64 l2, .int .i64 l3] 24)) (.cells #[.int .i64 m0, .int .i64 m1, .int .i64 m2, .int .i64 m3] 24)) hA2
  have hA2 := heap_below (alloc_below ((((W.alloc (.cells #[.string x, .string x'] 23)).alloc (.cells #[.string y, .string y'] 23)).alloc (.cells #[.int .i64 l0, .int .i64 l1, .int .i64 l2, .int .i64 l3] 24)).alloc (.cells #[.int .i64 m0, .int .i64 m1, .int .i64 m2, .int .i64 m3] 24)) (.cells #[.int .i64 s0, .int .i64 s1] 25)) hA2
  have RL := Lib.hid hA2
  have hA3 : ((((W.alloc (.cells #[.string x, .string x'] 23)).alloc (.cells #[.string y, .string y'] 23)).alloc (.cells #[.int .i64 l0, .int .i64 l1, .int .i64 l2, .int .i64 l3] 24)).alloc (.cells #[.int .i64 m0, .int .i64 m1, .int .i64 m2, .int .i64 m3] 24)).heap[(W.heap.size + 1 + 1 + 1)]? = some (.cells #[.int .i64 m0, .int .i64 m1, .int .i64 m2, .int .i64 m3] 24 (0, 0)) := (by have h := heap_alloc_new (((W.alloc (.cells #[.string x, .string x'] 23)).alloc (.cells #[.string y, .string y'] 23)).alloc (.cells #[.int .i64 l0, .int .i64 l1, .int .i64 l2, .int .i64 l3] 24)) (.cells #[.int .i64 m0, .int .i64 m1, .int .i64 m2, .int .i64 m3] 24); rwa [show (((W.alloc (.cells #[.string x, .string x'] 23)).alloc (.cells #[.string y, .string y'] 23)).alloc (.cells #[.int .i64 l0, .int .i64 l1, .int .i64 l2, .int .i64 l3] 24)).heap.size = (W.heap.size + 1 + 1 + 1) by simp] at h)
  have hA3 := heap_below (alloc_below ((((W.alloc (.cells #[.string x, .string x'] 23)).alloc (.cells #[.string y, .string y'] 23)).alloc (.cells #[.int .i64 l0, .int .i64 l1, .int .i64 l2, .int .i64 l3] 24)).alloc (.cells #[.int .i64 m0, .int .i64 m1, .int .i64 m2, .int .i64 m3] 24)) (.cells #[.int .i64 s0, .int .i64 s1] 25)) hA3
  have RM := Lib.hid hA3
  have hA4 : (((((W.alloc (.cells #[.string x, .string x'] 23)).alloc (.cells #[.string y, .string y'] 23)).alloc (.cells #[.int .i64 l0, .int .i64 l1, .int .i64 l2, .int .i64 l3] 24)).alloc (.cells #[.int .i64 m0, .int .i64 m1, .int .i64 m2, .int .i64 m3] 24)).alloc (.cells #[.int .i64 s0, .int .i64 s1] 25)).heap[(W.heap.size + 1 + 1 + 1 + 1)]? = some (.cells #[.int .i64 s0, .int .i64 s1] 25 (0, 0)) := (by have h := heap_alloc_new ((((W.alloc (.cells #[.string x, .string x'] 23)).alloc (.cells #[.string y, .string y'] 23)).alloc (.cells #[.int .i64 l0, .int .i64 l1, .int .i64 l2, .int .i64 l3] 24)).alloc (.cells #[.int .i64 m0, .int .i64 m1, .int .i64 m2, .int .i64 m3] 24)) (.cells #[.int .i64 s0, .int .i64 s1] 25); rwa [show ((((W.alloc (.cells #[.string x, .string x'] 23)).alloc (.cells #[.string y, .string y'] 23)).alloc (.cells #[.int .i64 l0, .int .i64 l1, .int .i64 l2, .int .i64 l3] 24)).alloc (.cells #[.int .i64 m0, .int .i64 m1, .int .i64 m2, .int .i64 m3] 24)).heap.size = (W.heap.size + 1 + 1 + 1 + 1) by simp] at h)
  have RS := Lib.hid hA4
  clear hA0 hA1 hA2 hA3 hA4
  generalize (((((W.alloc (.cells #[.string x, .string x'] 23)).alloc (.cells #[.string y, .string y'] 23)).alloc (.cells #[.int .i64 l0, .int .i64 l1, .int .i64 l2, .int .i64 l3] 24)).alloc (.cells #[.int .i64 m0, .int .i64 m1, .int .i64 m2, .int .i64 m3] 24)).alloc (.cells #[.int .i64 s0, .int .i64 s1] 25)) = w0 at *
  refine (sane_q w0 (HT.out.via HW.out)).mono ?_
  rintro e v1 ⟨rfl, hB⟩
  have HW := Lib.hid (belowVia hB HW.out)
  have RX := Lib.hid (heap_below hB RX.out)
  have RY := Lib.hid (heap_below hB RY.out)
  have RL := Lib.hid (heap_below hB RL.out)
  have RM := Lib.hid (heap_below hB RM.out)
  have RS := Lib.hid (heap_below hB RS.out)
  clear hB
  obtain ⟨g0, _⟩ := cell2 RX.out
  obtain ⟨g1, _⟩ := cell2b RX.out
  go_wp2_with fail
  clear g0 g1
  refine (HCX.out _).mono ?_
  rintro e v2 ⟨rfl, hB⟩
  have HW := Lib.hid (belowVia hB HW.out)
  have RX := Lib.hid (heap_below hB RX.out)
  have RY := Lib.hid (heap_below hB RY.out)
  have RL := Lib.hid (heap_below hB RL.out)
  have RM := Lib.hid (heap_below hB RM.out)
  have RS := Lib.hid (heap_below hB RS.out)
  clear hB
  obtain ⟨c0, c1⟩ := cell2 RX.out
  obtain ⟨c2, c3⟩ := cell2b RX.out
  have RY := Lib.hid ((heap_setCell_other _ ⟨W.heap.size, 1, none⟩ _ (.string xb) (by show (W.heap.size + 1) ≠ W.heap.size; omega)).trans ((heap_setCell_other _ ⟨W.heap.size, 0, none⟩ _ (.string xa) (by show (W.heap.size + 1) ≠ W.heap.size; omega)).trans RY.out))
  have RL := Lib.hid ((heap_setCell_other _ ⟨W.heap.size, 1, none⟩ _ (.string xb) (by show (W.heap.size + 1 + 1) ≠ W.heap.size; omega)).trans ((heap_setCell_other _ ⟨W.heap.size, 0, none⟩ _ (.string xa) (by show (W.heap.size + 1 + 1) ≠ W.heap.size; omega)).trans RL.out))
  have RM := Lib.hid ((heap_setCell_other _ ⟨W.heap.size, 1, none⟩ _ (.string xb) (by show (W.heap.size + 1 + 1 + 1) ≠ W.heap.size; omega)).trans ((heap_setCell_other _ ⟨W.heap.size, 0, none⟩ _ (.string xa) (by show (W.heap.size + 1 + 1 + 1) ≠ W.heap.size; omega)).trans RM.out))
  have RS := Lib.hid ((heap_setCell_other _ ⟨W.heap.size, 1, none⟩ _ (.string xb) (by show (W.heap.size + 1 + 1 + 1 + 1) ≠ W.heap.size; omega)).trans ((heap_setCell_other _ ⟨W.heap.size, 0, none⟩ _ (.string xa) (by show (W.heap.size + 1 + 1 + 1 + 1) ≠ W.heap.size; omega)).trans RS.out))
  have HW := Lib.hid (below_set2 (p := W.heap.size) HW.out (by omega) (.string xa) (.string xb))
  have RX := Lib.hid (want_setO RX.out (.string xa) (.string xb))
  obtain ⟨g0, _⟩ := cell2 RY.out
  obtain ⟨g1, _⟩ := cell2b RY.out
  go_wp2_with fail
  clear g0 g1 c0 c1 c2 c3
  generalize (v2.setCell ⟨W.heap.size, 0, none⟩ (.string xa)).setCell ⟨W.heap.size, 1, none⟩ (.string xb) = v3 at *
  refine (HCY.out _).mono ?_
  rintro e v4 ⟨rfl, hB⟩
  have HW := Lib.hid (belowVia hB HW.out)
  have RX := Lib.hid (heap_below hB RX.out)
  have RY := Lib.hid (heap_below hB RY.out)
  have RL := Lib.hid (heap_below hB RL.out)
  have RM := Lib.hid (heap_below hB RM.out)
  have RS := Lib.hid (heap_below hB RS.out)
  clear hB
  obtain ⟨c0, c1⟩ := cell2 RY.out
  obtain ⟨c2, c3⟩ := cell2b RY.out
  have RX := Lib.hid ((heap_setCell_other _ ⟨(W.heap.size + 1), 1, none⟩ _ (.string yb) (by show W.heap.size ≠ (W.heap.size + 1); omega)).trans ((heap_setCell_other _ ⟨(W.heap.size + 1), 0, none⟩ _ (.string ya) (by show W.heap.size ≠ (W.heap.size + 1); omega)).trans RX.out))
  have RL := Lib.hid ((heap_setCell_other _ ⟨(W.heap.size + 1), 1, none⟩ _ (.string yb) (by show (W.heap.size + 1 + 1) ≠ (W.heap.size + 1); omega)).trans ((heap_setCell_other _ ⟨(W.heap.size + 1), 0, none⟩ _ (.string ya) (by show (W.heap.size + 1 + 1) ≠ (W.heap.size + 1); omega)).trans RL.out))
  have RM := Lib.hid ((heap_setCell_other _ ⟨(W.heap.size + 1), 1, none⟩ _ (.string yb) (by show (W.heap.size + 1 + 1 + 1) ≠ (W.heap.size + 1); omega)).trans ((heap_setCell_other _ ⟨(W.heap.size + 1), 0, none⟩ _ (.string ya) (by show (W.heap.size + 1 + 1 + 1) ≠ (W.heap.size + 1); omega)).trans RM.out))
  have RS := Lib.hid ((heap_setCell_other _ ⟨(W.heap.size + 1), 1, none⟩ _ (.string yb) (by show (W.heap.size + 1 + 1 + 1 + 1) ≠ (W.heap.size + 1); omega)).trans ((heap_setCell_other _ ⟨(W.heap.size + 1), 0, none⟩ _ (.string ya) (by show (W.heap.size + 1 + 1 + 1 + 1) ≠ (W.heap.size + 1); omega)).trans RS.out))
  have HW := Lib.hid (below_set2 (p := (W.heap.size + 1)) HW.out (by omega) (.string ya) (.string yb))
  have RY := Lib.hid (want_setO RY.out (.string ya) (.string yb))
  go_upto_region 4 with fail
  clear c0 c1 c2 c3
  generalize (v4.setCell ⟨W.heap.size + 1, 0, none⟩ (.string ya)).setCell ⟨W.heap.size + 1, 1, none⟩ (.string yb) = v5 at *
  have g0 := (cell_of_row _ _ 0 _ _ _ RX.out).trans (by rfl : _ = some (.string xa))
  have g1 := (cell_of_row _ _ 1 _ _ _ RX.out).trans (by rfl : _ = some (.string xb))
  have g2 := (cell_of_row _ _ 0 _ _ _ RY.out).trans (by rfl : _ = some (.string ya))
  have g3 := (cell_of_row _ _ 1 _ _ _ RY.out).trans (by rfl : _ = some (.string yb))
  have g4 := (cell_of_row _ _ 0 _ _ _ RL.out).trans (by rfl : _ = some (.int .i64 l0))
  have g5 := (cell_of_row _ _ 1 _ _ _ RL.out).trans (by rfl : _ = some (.int .i64 l1))
  have g6 := (cell_of_row _ _ 2 _ _ _ RL.out).trans (by rfl : _ = some (.int .i64 l2))
  have g7 := (cell_of_row _ _ 3 _ _ _ RL.out).trans (by rfl : _ = some (.int .i64 l3))
  have g8 := (cell_of_row _ _ 0 _ _ _ RM.out).trans (by rfl : _ = some (.int .i64 m0))
  have g9 := (cell_of_row _ _ 1 _ _ _ RM.out).trans (by rfl : _ = some (.int .i64 m1))
  have g10 := (cell_of_row _ _ 2 _ _ _ RM.out).trans (by rfl : _ = some (.int .i64 m2))
  have g11 := (cell_of_row _ _ 3 _ _ _ RM.out).trans (by rfl : _ = some (.int .i64 m3))
  have g12 := (cell_of_row _ _ 0 _ _ _ RS.out).trans (by rfl : _ = some (.int .i64 s0))
  have g13 := (cell_of_row _ _ 1 _ _ _ RS.out).trans (by rfl : _ = some (.int .i64 s1))
  go_region_held3 (fun w' => w'.cell? ⟨W.heap.size, 0, none⟩ = some (.string xa) ∧ w'.cell? ⟨W.heap.size, 1, none⟩ = some (.string xb) ∧ w'.cell? ⟨W.heap.size + 1, 0, none⟩ = some (.string ya) ∧ w'.cell? ⟨W.heap.size + 1, 1, none⟩ = some (.string yb) ∧ w'.cell? ⟨W.heap.size + 1 + 1, 0, none⟩ = some (.int .i64 l0) ∧ w'.cell? ⟨W.heap.size + 1 + 1, 1, none⟩ = some (.int .i64 l1) ∧ w'.cell? ⟨W.heap.size + 1 + 1, 2, none⟩ = some (.int .i64 l2) ∧ w'.cell? ⟨W.heap.size + 1 + 1, 3, none⟩ = some (.int .i64 l3) ∧ w'.cell? ⟨W.heap.size + 1 + 1 + 1, 0, none⟩ = some (.int .i64 m0) ∧ w'.cell? ⟨W.heap.size + 1 + 1 + 1, 1, none⟩ = some (.int .i64 m1) ∧ w'.cell? ⟨W.heap.size + 1 + 1 + 1, 2, none⟩ = some (.int .i64 m2) ∧ w'.cell? ⟨W.heap.size + 1 + 1 + 1, 3, none⟩ = some (.int .i64 m3) ∧ w'.cell? ⟨W.heap.size + 1 + 1 + 1 + 1, 0, none⟩ = some (.int .i64 s0) ∧ w'.cell? ⟨W.heap.size + 1 + 1 + 1 + 1, 1, none⟩ = some (.int .i64 s1) ∧ Below v5.heap.size v5 w')
    (first | exact ⟨g0, g1, g2, g3, g4, g5, g6, g7, g8, g9, g10, g11, g12, g13, (Below.refl _ _).drew⟩ | exact s15K (by assumption) hB3 | exact s15K (by assumption) hB4 | exact s15K (by assumption) hB5 | exact s15K (by assumption) (alloc_below _ _))
    (first
    | (go_at_call 8; (first | ((with_reducible refine (HLL.out _).mono ?_); rintro e u3 ⟨⟨ql, rfl, hql⟩, hB3⟩) | ((with_reducible refine (HLM.out _).mono ?_); rintro e u4 ⟨⟨qm, rfl, hqm⟩, hB4⟩)))
    | (go_at_call 9; (with_reducible refine (HSS.out _).mono ?_); rintro e u5 ⟨⟨qs, rfl, hqs⟩, hB5⟩))
  have HB5 : Hid (Below v5.heap.size v5 (u5.alloc (.cells #[.string xa, .string xb, .string ya, .string yb, .string (intB ql.num), .string (intB ql.den), .string (intB qm.num), .string (intB qm.den), .string (intB qs.num), .string (intB qs.den)] 23))) := (And.right (And.right (And.right (And.right (And.right (And.right (And.right (And.right (And.right (And.right (And.right (And.right (And.right (And.right (by assumption)))))))))))))))
  have hrow := heap_alloc_new u5 (.cells #[.string xa, .string xb, .string ya, .string yb, .string (intB ql.num), .string (intB ql.den), .string (intB qm.num), .string (intB qm.den), .string (intB qs.num), .string (intB qs.den)] 23)
  have FL := hql.fits (by decide) (by decide)
  have FM := hqm.fits (by decide) (by decide)
  have FS := hqs.fits (by decide) (by decide)
  have HCS : Hid (∀ k : Nat, k < 5 → ∃ n d : ByteArray, (u5.alloc (.cells #[.string xa, .string xb, .string ya, .string yb, .string (intB ql.num), .string (intB ql.den), .string (intB qm.num), .string (intB qm.den), .string (intB qs.num), .string (intB qs.den)] 23)).cell? ⟨u5.heap.size, k * 2, none⟩ = some (.string n) ∧ (u5.alloc (.cells #[.string xa, .string xb, .string ya, .string yb, .string (intB ql.num), .string (intB ql.den), .string (intB qm.num), .string (intB qm.den), .string (intB qs.num), .string (intB qs.den)] 23)).cell? ⟨u5.heap.size, k * 2 + 1, none⟩ = some (.string d) ∧ Sized n ∧ Sized d) := by
    show ∀ k : Nat, k < 5 → _
    intro k hk
    rcases (by omega : k = 0 ∨ k = 1 ∨ k = 2 ∨ k = 3 ∨ k = 4) with rfl | rfl | rfl | rfl | rfl
    · exact ⟨_, _, (cell_of_row _ _ 0 _ _ _ hrow).trans rfl, (cell_of_row _ _ 1 _ _ _ hrow).trans rfl, ZX1.out, ZX2.out⟩
    · exact ⟨_, _, (cell_of_row _ _ 2 _ _ _ hrow).trans rfl, (cell_of_row _ _ 3 _ _ _ hrow).trans rfl, ZY1.out, ZY2.out⟩
    · exact ⟨_, _, (cell_of_row _ _ 4 _ _ _ hrow).trans rfl, (cell_of_row _ _ 5 _ _ _ hrow).trans rfl, sized_fits FL.1, sized_fits FL.2⟩
    · exact ⟨_, _, (cell_of_row _ _ 6 _ _ _ hrow).trans rfl, (cell_of_row _ _ 7 _ _ _ hrow).trans rfl, sized_fits FM.1, sized_fits FM.2⟩
    · exact ⟨_, _, (cell_of_row _ _ 8 _ _ _ hrow).trans rfl, (cell_of_row _ _ 9 _ _ _ hrow).trans rfl, sized_fits FS.1, sized_fits FS.2⟩
  have HC0 : Hid ((u5.alloc (.cells #[.string xa, .string xb, .string ya, .string yb, .string (intB ql.num), .string (intB ql.den), .string (intB qm.num), .string (intB qm.den), .string (intB qs.num), .string (intB qs.den)] 23)).cell? ⟨u5.heap.size, 1, none⟩ = some (.string xb)) := Lib.hid ((cell_of_row _ _ 1 _ _ _ hrow).trans rfl)
  have HW := Lib.hid (belowVia HB5.out HW.out)
  clear hrow FL FM FS HB5 HLL HLM HSS HCX HCY ZX1 ZY1 ZY2 RX RY RL RM RS g0 g1 g2 g3 g4 g5 g6 g7 g8 g9 g10 g11 g12 g13
  go_wp2_with fail
  generalize (u5.alloc (.cells #[.string xa, .string xb, .string ya, .string yb, .string (intB ql.num), .string (intB ql.den), .string (intB qm.num), .string (intB qm.den), .string (intB qs.num), .string (intB qs.den)] 23)) = w6 at *
  generalize u5.heap.size = g at *
  go_loopw [19] (fun i wr => ∃ k : Nat, k ≤ 5 ∧ i = .int .i64 k ∧ Below w6.heap.size w6 wr) (fun i _ => 5 - (intOf i).toNat)
  case atStart => exact ⟨0, Nat.zero_le _, rfl, Below.refl _ _⟩
  case round =>
    obtain ⟨k, hk, rfl, hB⟩ := hrel
    have HB := Lib.hid hB
    clear hB
    by_cases hlt : k < 5
    · have hlt' : (k : Int) < 5 := by omega
      obtain ⟨n, d, e0, e1, z1, z2⟩ := HCS.out k hlt
      have E0 := Lib.hid e0
      have E1 := Lib.hid e1
      have Z1 := Lib.hid z1
      have Z2 := Lib.hid z2
      clear e0 e1 z1 z2
      go_wp2_with fail
      go_loopw [20] (fun i wr => ∃ j : Nat, j ≤ 5 ∧ i = .int .i64 j ∧ Below w6.heap.size w6 wr) (fun i _ => 5 - (intOf i).toNat)
      case atStart => exact ⟨0, Nat.zero_le _, rfl, HB.out⟩
      case round =>
        obtain ⟨j, hj, rfl, hB⟩ := hrel
        have HX := Lib.hid hB
        clear hB HB
        by_cases hjt : j < 5
        · as_aux_lemma =>
            have hjt' : (j : Int) < 5 := by omega
            obtain ⟨m, c, f0, f1, z3, z4⟩ := HCS.out j hjt
            have e0 := keptBelow HX.out E0.out
            have e1 := keptBelow HX.out E1.out
            replace f0 := keptBelow HX.out f0
            replace f1 := keptBelow HX.out f1
            obtain ⟨a0, b0, a1, b1, a2, b2, a3, b3, r0, r1, r2, r3, kc, hF⟩ := pair_facts n d m c Z1.out Z2.out z3 z4
            have HF := Lib.hid hF
            clear hF z3 z4
            replace f0 := keptBelow (alloc_below wr (.cells #[.string n, .string d] 23)) f0
            replace f1 := keptBelow (alloc_below wr (.cells #[.string n, .string d] 23)) f1
            have HBX := Lib.hid (Boxes2.new wr n d m c)
            have HXS := Lib.hid HX.out.size
            have HX := Lib.hid (belowVia (alloc_below (wr.alloc (.cells #[.string n, .string d] 23)) (.cells #[.string m, .string c] 23)) (belowVia (alloc_below wr (.cells #[.string n, .string d] 23)) HX.out))
            have LP : Hid (w6.heap.size ≤ wr.heap.size ∧ wr.heap.size + 1 < ((wr.alloc (.cells #[.string n, .string d] 23)).alloc (.cells #[.string m, .string c] 23)).heap.size) := ⟨HXS.out, by simp⟩
            obtain ⟨h0, h1, h2, h3⟩ := HBX.out
            go_wp2_with fail
            clear e0 e1 f0 f1 h0 h1 h2 h3
            generalize ((wr.alloc (.cells #[.string n, .string d] 23)).alloc (.cells #[.string m, .string c] 23)) = u0 at *
            generalize wr.heap.size = P at *
            refine (HF.out.four _).mono ?_
            rintro e k1 ⟨rfl, hB⟩
            have hb1 := alloc_below k1 (.cells [.string a0, .string b0, .string a1, .string b1, .string a2, .string b2, .string a3, .string b3].toArray 31)
            have hb2 := alloc_below (k1.alloc (.cells [.string a0, .string b0, .string a1, .string b1, .string a2, .string b2, .string a3, .string b3].toArray 31)) (.cells [.int .i64 r0, .int .i64 r1, .int .i64 r2, .int .i64 r3].toArray 33)
            have hb3 := alloc_below ((k1.alloc (.cells [.string a0, .string b0, .string a1, .string b1, .string a2, .string b2, .string a3, .string b3].toArray 31)).alloc (.cells [.int .i64 r0, .int .i64 r1, .int .i64 r2, .int .i64 r3].toArray 33)) (.cells [.string ⟨#[]⟩, .string ⟨#[]⟩, .string ⟨#[]⟩, .string ⟨#[]⟩, .string ⟨#[]⟩, .string ⟨#[]⟩, .string ⟨#[]⟩, .string ⟨#[]⟩].toArray 31)
            have hb4 := alloc_below (((k1.alloc (.cells [.string a0, .string b0, .string a1, .string b1, .string a2, .string b2, .string a3, .string b3].toArray 31)).alloc (.cells [.int .i64 r0, .int .i64 r1, .int .i64 r2, .int .i64 r3].toArray 33)).alloc (.cells [.string ⟨#[]⟩, .string ⟨#[]⟩, .string ⟨#[]⟩, .string ⟨#[]⟩, .string ⟨#[]⟩, .string ⟨#[]⟩, .string ⟨#[]⟩, .string ⟨#[]⟩].toArray 31)) (.cells [.int .i64 0, .int .i64 0, .int .i64 0, .int .i64 0].toArray 33)
            have hbb := belowVia hb4 (belowVia hb3 (belowVia hb2 hb1))
            have g1 := heap_alloc_new k1 (.cells [.string a0, .string b0, .string a1, .string b1, .string a2, .string b2, .string a3, .string b3].toArray 31)
            have g2 := heap_alloc_new (k1.alloc (.cells [.string a0, .string b0, .string a1, .string b1, .string a2, .string b2, .string a3, .string b3].toArray 31)) (.cells [.int .i64 r0, .int .i64 r1, .int .i64 r2, .int .i64 r3].toArray 33)
            have g3 := heap_alloc_new ((k1.alloc (.cells [.string a0, .string b0, .string a1, .string b1, .string a2, .string b2, .string a3, .string b3].toArray 31)).alloc (.cells [.int .i64 r0, .int .i64 r1, .int .i64 r2, .int .i64 r3].toArray 33)) (.cells [.string ⟨#[]⟩, .string ⟨#[]⟩, .string ⟨#[]⟩, .string ⟨#[]⟩, .string ⟨#[]⟩, .string ⟨#[]⟩, .string ⟨#[]⟩, .string ⟨#[]⟩].toArray 31)
            have g4 := heap_alloc_new (((k1.alloc (.cells [.string a0, .string b0, .string a1, .string b1, .string a2, .string b2, .string a3, .string b3].toArray 31)).alloc (.cells [.int .i64 r0, .int .i64 r1, .int .i64 r2, .int .i64 r3].toArray 33)).alloc (.cells [.string ⟨#[]⟩, .string ⟨#[]⟩, .string ⟨#[]⟩, .string ⟨#[]⟩, .string ⟨#[]⟩, .string ⟨#[]⟩, .string ⟨#[]⟩, .string ⟨#[]⟩].toArray 31)) (.cells [.int .i64 0, .int .i64 0, .int .i64 0, .int .i64 0].toArray 33)
            simp only [alloc_size] at g2 g3 g4
            have hbx := (HBX.out.via hB).via hbb
            have hlp : P + 1 < k1.heap.size := Nat.lt_of_lt_of_le LP.out.2 hB.size
            have F0 : Hid (PairAt4 P k1.heap.size n d m c [.string a0, .string b0, .string a1, .string b1, .string a2, .string b2, .string a3, .string b3].toArray [.int .i64 r0, .int .i64 r1, .int .i64 r2, .int .i64 r3].toArray [.string ⟨#[]⟩, .string ⟨#[]⟩, .string ⟨#[]⟩, .string ⟨#[]⟩, .string ⟨#[]⟩, .string ⟨#[]⟩, .string ⟨#[]⟩, .string ⟨#[]⟩].toArray [.int .i64 0, .int .i64 0, .int .i64 0, .int .i64 0].toArray ((((k1.alloc (.cells [.string a0, .string b0, .string a1, .string b1, .string a2, .string b2, .string a3, .string b3].toArray 31)).alloc (.cells [.int .i64 r0, .int .i64 r1, .int .i64 r2, .int .i64 r3].toArray 33)).alloc (.cells [.string ⟨#[]⟩, .string ⟨#[]⟩, .string ⟨#[]⟩, .string ⟨#[]⟩, .string ⟨#[]⟩, .string ⟨#[]⟩, .string ⟨#[]⟩, .string ⟨#[]⟩].toArray 31)).alloc (.cells [.int .i64 0, .int .i64 0, .int .i64 0, .int .i64 0].toArray 33))) := ⟨hbx.a0, hbx.a1, hbx.b0, hbx.b1, heap_below (belowVia hb4 (belowVia hb3 hb2)) g1, heap_below (belowVia hb4 hb3) g2, heap_below hb4 g3, g4, hlp⟩
            have HX := Lib.hid (belowVia hbb (belowVia hB HX.out))
            have LQ : Hid (w6.heap.size ≤ k1.heap.size) := Lib.hid (by have := LP.out.1; omega)
            clear hB hb1 hb2 hb3 hb4 hbb g1 g2 g3 g4 hbx hlp HBX LP
            obtain ⟨h0, h1, h2, h3⟩ : _ ∧ _ ∧ _ ∧ _ := ⟨F0.out.a0, F0.out.a1, F0.out.b0, F0.out.b1⟩
            go_wp2_with fail
            clear h0 h1 h2 h3
            generalize ((((k1.alloc (.cells [.string a0, .string b0, .string a1, .string b1, .string a2, .string b2, .string a3, .string b3].toArray 31)).alloc (.cells [.int .i64 r0, .int .i64 r1, .int .i64 r2, .int .i64 r3].toArray 33)).alloc (.cells [.string ⟨#[]⟩, .string ⟨#[]⟩, .string ⟨#[]⟩, .string ⟨#[]⟩, .string ⟨#[]⟩, .string ⟨#[]⟩, .string ⟨#[]⟩, .string ⟨#[]⟩].toArray 31)).alloc (.cells [.int .i64 0, .int .i64 0, .int .i64 0, .int .i64 0].toArray 33)) = u1 at *
            generalize k1.heap.size = Qb at *
            refine (HF.out.ra _).mono ?_
            rintro e t0' ⟨rfl, hB⟩
            have F0 := Lib.hid (F0.out.via hB)
            have HX := Lib.hid (belowVia hB HX.out)
            clear hB
            obtain ⟨h0, h1, h2, h3⟩ : _ ∧ _ ∧ _ ∧ _ := ⟨F0.out.a0, F0.out.a1, F0.out.b0, F0.out.b1⟩
            have c0 := (cell_of_row _ _ 0 _ _ _ F0.out.t).trans (by rfl : _ = some (.string ⟨#[]⟩))
            have c1 := frozen_of_row _ _ 0 _ _ F0.out.t
            have c2 := (cell_of_row _ _ 1 _ _ _ F0.out.t).trans (by rfl : _ = some (.string ⟨#[]⟩))
            have c3 := frozen_of_row _ _ 1 _ _ F0.out.t
            have d0 := (cell_of_row _ _ 0 _ _ _ F0.out.f).trans (by rfl : _ = some (.int .i64 0))
            have d1 := frozen_of_row _ _ 0 _ _ F0.out.f
            have F1 := F0.out.set3 0 1 0 (.string a0) (.string b0) (.int .i64 r0)
            simp only [List.setIfInBounds_toArray, List.set_cons_zero, List.set_cons_succ] at F1
            have HX := Lib.hid (below_set3q HX.out LQ.out 0 1 0 (.string a0) (.string b0) (.int .i64 r0))
            clear h0 h1 h2 h3
            obtain ⟨h0, h1, h2, h3⟩ : _ ∧ _ ∧ _ ∧ _ := ⟨F1.a0, F1.a1, F1.b0, F1.b1⟩
            have F0 := Lib.hid F1
            clear F1
            go_wp2_with fail
            clear h0 h1 h2 h3 c0 c1 c2 c3 d0 d1
            generalize ((t0'.setCell ⟨Qb + 1 + 1, 0, none⟩ (.string a0)).setCell ⟨Qb + 1 + 1, 1, none⟩ (.string b0)).setCell ⟨Qb + 1 + 1 + 1, 0, none⟩ (.int .i64 r0) = x0 at *
            refine (HF.out.rs _).mono ?_
            rintro e t1' ⟨rfl, hB⟩
            have F0 := Lib.hid (F0.out.via hB)
            have HX := Lib.hid (belowVia hB HX.out)
            clear hB
            obtain ⟨h0, h1, h2, h3⟩ : _ ∧ _ ∧ _ ∧ _ := ⟨F0.out.a0, F0.out.a1, F0.out.b0, F0.out.b1⟩
            have c0 := (cell_of_row _ _ 2 _ _ _ F0.out.t).trans (by rfl : _ = some (.string ⟨#[]⟩))
            have c1 := frozen_of_row _ _ 2 _ _ F0.out.t
            have c2 := (cell_of_row _ _ 3 _ _ _ F0.out.t).trans (by rfl : _ = some (.string ⟨#[]⟩))
            have c3 := frozen_of_row _ _ 3 _ _ F0.out.t
            have d0 := (cell_of_row _ _ 1 _ _ _ F0.out.f).trans (by rfl : _ = some (.int .i64 0))
            have d1 := frozen_of_row _ _ 1 _ _ F0.out.f
            have F1 := F0.out.set3 2 3 1 (.string a1) (.string b1) (.int .i64 r1)
            simp only [List.setIfInBounds_toArray, List.set_cons_zero, List.set_cons_succ] at F1
            have HX := Lib.hid (below_set3q HX.out LQ.out 2 3 1 (.string a1) (.string b1) (.int .i64 r1))
            clear h0 h1 h2 h3
            obtain ⟨h0, h1, h2, h3⟩ : _ ∧ _ ∧ _ ∧ _ := ⟨F1.a0, F1.a1, F1.b0, F1.b1⟩
            have F0 := Lib.hid F1
            clear F1
            go_wp2_with fail
            clear h0 h1 h2 h3 c0 c1 c2 c3 d0 d1
            generalize ((t1'.setCell ⟨Qb + 1 + 1, 2, none⟩ (.string a1)).setCell ⟨Qb + 1 + 1, 3, none⟩ (.string b1)).setCell ⟨Qb + 1 + 1 + 1, 1, none⟩ (.int .i64 r1) = x1 at *
            refine (HF.out.rm _).mono ?_
            rintro e t2' ⟨rfl, hB⟩
            have F0 := Lib.hid (F0.out.via hB)
            have HX := Lib.hid (belowVia hB HX.out)
            clear hB
            obtain ⟨h0, h1, h2, h3⟩ : _ ∧ _ ∧ _ ∧ _ := ⟨F0.out.a0, F0.out.a1, F0.out.b0, F0.out.b1⟩
            have c0 := (cell_of_row _ _ 4 _ _ _ F0.out.t).trans (by rfl : _ = some (.string ⟨#[]⟩))
            have c1 := frozen_of_row _ _ 4 _ _ F0.out.t
            have c2 := (cell_of_row _ _ 5 _ _ _ F0.out.t).trans (by rfl : _ = some (.string ⟨#[]⟩))
            have c3 := frozen_of_row _ _ 5 _ _ F0.out.t
            have d0 := (cell_of_row _ _ 2 _ _ _ F0.out.f).trans (by rfl : _ = some (.int .i64 0))
            have d1 := frozen_of_row _ _ 2 _ _ F0.out.f
            have F1 := F0.out.set3 4 5 2 (.string a2) (.string b2) (.int .i64 r2)
            simp only [List.setIfInBounds_toArray, List.set_cons_zero, List.set_cons_succ] at F1
            have HX := Lib.hid (below_set3q HX.out LQ.out 4 5 2 (.string a2) (.string b2) (.int .i64 r2))
            clear h0 h1 h2 h3
            obtain ⟨h0, h1, h2, h3⟩ : _ ∧ _ ∧ _ ∧ _ := ⟨F1.a0, F1.a1, F1.b0, F1.b1⟩
            have F0 := Lib.hid F1
            clear F1
            go_wp2_with fail
            clear h0 h1 h2 h3 c0 c1 c2 c3 d0 d1
            generalize ((t2'.setCell ⟨Qb + 1 + 1, 4, none⟩ (.string a2)).setCell ⟨Qb + 1 + 1, 5, none⟩ (.string b2)).setCell ⟨Qb + 1 + 1 + 1, 2, none⟩ (.int .i64 r2) = x2 at *
            refine (HF.out.rd _).mono ?_
            rintro e t3' ⟨rfl, hB⟩
            have F0 := Lib.hid (F0.out.via hB)
            have HX := Lib.hid (belowVia hB HX.out)
            clear hB
            obtain ⟨h0, h1, h2, h3⟩ : _ ∧ _ ∧ _ ∧ _ := ⟨F0.out.a0, F0.out.a1, F0.out.b0, F0.out.b1⟩
            have c0 := (cell_of_row _ _ 6 _ _ _ F0.out.t).trans (by rfl : _ = some (.string ⟨#[]⟩))
            have c1 := frozen_of_row _ _ 6 _ _ F0.out.t
            have c2 := (cell_of_row _ _ 7 _ _ _ F0.out.t).trans (by rfl : _ = some (.string ⟨#[]⟩))
            have c3 := frozen_of_row _ _ 7 _ _ F0.out.t
            have d0 := (cell_of_row _ _ 3 _ _ _ F0.out.f).trans (by rfl : _ = some (.int .i64 0))
            have d1 := frozen_of_row _ _ 3 _ _ F0.out.f
            have F1 := F0.out.set3 6 7 3 (.string a3) (.string b3) (.int .i64 r3)
            simp only [List.setIfInBounds_toArray, List.set_cons_zero, List.set_cons_succ] at F1
            have HX := Lib.hid (below_set3q HX.out LQ.out 6 7 3 (.string a3) (.string b3) (.int .i64 r3))
            have F0 := Lib.hid F1
            clear F1 h0 h1 h2 h3
            go_upto_region 20 with fail
            clear c0 c1 c2 c3 d0 d1
            generalize ((t3'.setCell ⟨Qb + 1 + 1, 6, none⟩ (.string a3)).setCell ⟨Qb + 1 + 1, 7, none⟩ (.string b3)).setCell ⟨Qb + 1 + 1 + 1, 3, none⟩ (.int .i64 r3) = x3 at *
            have CC1 := HF.out.cc
            have CC2 := HF.out.rc
            unfold CmpC at CC1 CC2
            have S0 := s29A F0.out
            have EQ1 := fun w => equal_rows a0 b0 a1 b1 a2 b2 a3 b3 w
            have EQ2 := fun w => equal_errs r0 r1 r2 r3 w
            go_region_held3 (fun w' => w'.cell? ⟨Qb, 0, none⟩ = some (.string a0) ∧ w'.cell? ⟨Qb, 1, none⟩ = some (.string b0) ∧ w'.cell? ⟨Qb, 2, none⟩ = some (.string a1) ∧ w'.cell? ⟨Qb, 3, none⟩ = some (.string b1) ∧ w'.cell? ⟨Qb, 4, none⟩ = some (.string a2) ∧ w'.cell? ⟨Qb, 5, none⟩ = some (.string b2) ∧ w'.cell? ⟨Qb, 6, none⟩ = some (.string a3) ∧ w'.cell? ⟨Qb, 7, none⟩ = some (.string b3) ∧ w'.cell? ⟨Qb + 1, 0, none⟩ = some (.int .i64 r0) ∧ w'.cell? ⟨Qb + 1, 1, none⟩ = some (.int .i64 r1) ∧ w'.cell? ⟨Qb + 1, 2, none⟩ = some (.int .i64 r2) ∧ w'.cell? ⟨Qb + 1, 3, none⟩ = some (.int .i64 r3) ∧ w'.cell? ⟨Qb + 1 + 1, 0, none⟩ = some (.string a0) ∧ w'.cell? ⟨Qb + 1 + 1, 1, none⟩ = some (.string b0) ∧ w'.cell? ⟨Qb + 1 + 1, 2, none⟩ = some (.string a1) ∧ w'.cell? ⟨Qb + 1 + 1, 3, none⟩ = some (.string b1) ∧ w'.cell? ⟨Qb + 1 + 1, 4, none⟩ = some (.string a2) ∧ w'.cell? ⟨Qb + 1 + 1, 5, none⟩ = some (.string b2) ∧ w'.cell? ⟨Qb + 1 + 1, 6, none⟩ = some (.string a3) ∧ w'.cell? ⟨Qb + 1 + 1, 7, none⟩ = some (.string b3) ∧ w'.cell? ⟨Qb + 1 + 1 + 1, 0, none⟩ = some (.int .i64 r0) ∧ w'.cell? ⟨Qb + 1 + 1 + 1, 1, none⟩ = some (.int .i64 r1) ∧ w'.cell? ⟨Qb + 1 + 1 + 1, 2, none⟩ = some (.int .i64 r2) ∧ w'.cell? ⟨Qb + 1 + 1 + 1, 3, none⟩ = some (.int .i64 r3) ∧ w'.cell? ⟨P, 0, none⟩ = some (.string n) ∧ w'.cell? ⟨P, 1, none⟩ = some (.string d) ∧ w'.cell? ⟨P + 1, 0, none⟩ = some (.string m) ∧ w'.cell? ⟨P + 1, 1, none⟩ = some (.string c) ∧ Below x3.heap.size x3 w')
              (first | exact s29K S0 (Below.refl _ _).drew | exact s29K (by assumption) hB3 | exact s29K (by assumption) hB4)
              (first
              | (go_at_call 15; (with_reducible refine (CC1 _).mono ?_); rintro e y3 ⟨rfl, hB3⟩)
              | (go_at_call 16; (with_reducible refine (CC2 _).mono ?_); rintro e y4 ⟨rfl, hB4⟩))
            have HH : Hid (Below x3.heap.size x3 y4) := (And.right (And.right (And.right (And.right (And.right (And.right (And.right (And.right (And.right (And.right (And.right (And.right (And.right (And.right (And.right (And.right (And.right (And.right (And.right (And.right (And.right (And.right (And.right (And.right (And.right (And.right (And.right (And.right (by assumption)))))))))))))))))))))))))))))
            have HX := Lib.hid (belowVia HH.out HX.out)
            clear S0 HH F0 CC1 CC2 EQ1 EQ2
            go_wp2_with fail
            go_roundw
            case rel => exact ⟨j + 1, by omega, by go_num, HX.out⟩
            case measure => simp [intOf]; omega
        · obtain rfl : j = 5 := by omega
          as_aux_lemma =>
            go_wp2_with fail
            refine (HPK.out _).mono ?_
            rintro e k1 ⟨rfl, rfl⟩
            go_wp2_with fail
            have hB := alloc_below k1 (.cells #[.int .i64 places, .int .i64 pp] 3)
            have hrow := heap_alloc_new k1 (.cells #[.int .i64 places, .int .i64 pp] 3)
            have HN : Hid (∀ t : Nat, t < 2 → ∃ p : Int, (k1.alloc (.cells #[.int .i64 places, .int .i64 pp] 3)).cell? ⟨k1.heap.size, t, none⟩ = some (.int .i64 p)) := by
              show ∀ t : Nat, t < 2 → _
              intro t ht
              rcases (by omega : t = 0 ∨ t = 1) with rfl | rfl
              · exact ⟨_, (cell_of_row _ _ 0 _ _ _ hrow).trans rfl⟩
              · exact ⟨_, (cell_of_row _ _ 1 _ _ _ hrow).trans rfl⟩
            have HX := Lib.hid (belowVia hB HX.out)
            clear hB hrow
            generalize k1.alloc (.cells #[.int .i64 places, .int .i64 pp] 3) = wz at *
            generalize k1.heap.size = gz at *
            go_loopw [139] (fun i wr => ∃ t : Nat, t ≤ 2 ∧ i = .int .i64 t ∧ Below wz.heap.size wz wr) (fun i _ => 2 - (intOf i).toNat)
            case atStart => exact ⟨0, Nat.zero_le _, rfl, Below.refl _ _⟩
            case round =>
              obtain ⟨t, ht, rfl, hB⟩ := hrel
              have HY := Lib.hid hB
              clear hB
              by_cases htt : t < 2
              · as_aux_lemma =>
                  have htt' : (t : Int) < 2 := by omega
                  obtain ⟨p, c0⟩ := HN.out t htt
                  replace c0 := keptBelow HY.out c0
                  have EE := Lib.hid (And.intro (keptBelow (belowVia HY.out HX.out) E0.out) (keptBelow (belowVia HY.out HX.out) E1.out))
                  obtain ⟨dn, dd', un, ud, ed, eu, hF⟩ := round_facts n d p Z1.out Z2.out
                  have HF := Lib.hid hF
                  clear hF
                  obtain ⟨e0, e1⟩ := EE.out
                  go_wp2_with fail
                  clear c0 e0 e1
                  refine (HF.out.dn _).mono ?_
                  rintro e v1c ⟨rfl, hB⟩
                  have HY := Lib.hid (belowVia hB HY.out)
                  have EE := Lib.hid (And.intro (keptBelow hB EE.out.1) (keptBelow hB EE.out.2))
                  clear hB
                  have hB := alloc_below v1c (.cells #[.string dn, .string dd'] 23)
                  have HY := Lib.hid (belowVia hB HY.out)
                  have EE := Lib.hid (And.intro (keptBelow hB EE.out.1) (keptBelow hB EE.out.2))
                  have BB0 := Lib.hid (BoxQ.new v1c dn dd')
                  clear hB
                  obtain ⟨e0, e1⟩ := EE.out
                  go_wp2_with fail
                  clear e0 e1
                  generalize v1c.alloc (.cells #[.string dn, .string dd'] 23) = v2' at *
                  generalize v1c.heap.size = q1 at *
                  refine (HF.out.rn _).mono ?_
                  rintro e v2c ⟨rfl, hB⟩
                  have HY := Lib.hid (belowVia hB HY.out)
                  have EE := Lib.hid (And.intro (keptBelow hB EE.out.1) (keptBelow hB EE.out.2))
                  have BB0 := Lib.hid (BB0.out.via hB)
                  clear hB
                  have hB := alloc_below v2c (.cells #[.string dn, .string dd'] 23)
                  have HY := Lib.hid (belowVia hB HY.out)
                  have EE := Lib.hid (And.intro (keptBelow hB EE.out.1) (keptBelow hB EE.out.2))
                  have BB0 := Lib.hid (BB0.out.via hB)
                  have BB1 := Lib.hid (BoxQ.new v2c dn dd')
                  clear hB
                  obtain ⟨e0, e1⟩ := EE.out
                  go_wp2_with fail
                  clear e0 e1
                  generalize v2c.alloc (.cells #[.string dn, .string dd'] 23) = v3' at *
                  generalize v2c.heap.size = q2 at *
                  refine (HF.out.up _).mono ?_
                  rintro e v3c ⟨rfl, hB⟩
                  have HY := Lib.hid (belowVia hB HY.out)
                  have EE := Lib.hid (And.intro (keptBelow hB EE.out.1) (keptBelow hB EE.out.2))
                  have BB0 := Lib.hid (BB0.out.via hB)
                  have BB1 := Lib.hid (BB1.out.via hB)
                  clear hB
                  have hB := alloc_below v3c (.cells #[.string un, .string ud] 23)
                  have HY := Lib.hid (belowVia hB HY.out)
                  have EE := Lib.hid (And.intro (keptBelow hB EE.out.1) (keptBelow hB EE.out.2))
                  have BB0 := Lib.hid (BB0.out.via hB)
                  have BB1 := Lib.hid (BB1.out.via hB)
                  have BB2 := Lib.hid (BoxQ.new v3c un ud)
                  clear hB
                  obtain ⟨e0, e1⟩ := EE.out
                  go_wp2_with fail
                  clear e0 e1
                  generalize v3c.alloc (.cells #[.string un, .string ud] 23) = v4' at *
                  generalize v3c.heap.size = q3 at *
                  refine (HF.out.ru _).mono ?_
                  rintro e v4c ⟨rfl, hB⟩
                  have HY := Lib.hid (belowVia hB HY.out)
                  have EE := Lib.hid (And.intro (keptBelow hB EE.out.1) (keptBelow hB EE.out.2))
                  have BB0 := Lib.hid (BB0.out.via hB)
                  have BB1 := Lib.hid (BB1.out.via hB)
                  have BB2 := Lib.hid (BB2.out.via hB)
                  clear hB
                  have hB := alloc_below v4c (.cells #[.string un, .string ud] 23)
                  have HY := Lib.hid (belowVia hB HY.out)
                  have EE := Lib.hid (And.intro (keptBelow hB EE.out.1) (keptBelow hB EE.out.2))
                  have BB0 := Lib.hid (BB0.out.via hB)
                  have BB1 := Lib.hid (BB1.out.via hB)
                  have BB2 := Lib.hid (BB2.out.via hB)
                  have BB3 := Lib.hid (BoxQ.new v4c un ud)
                  clear hB
                  obtain ⟨b00, b01⟩ := BB0.out
                  obtain ⟨b10, b11⟩ := BB1.out
                  obtain ⟨b20, b21⟩ := BB2.out
                  obtain ⟨b30, b31⟩ := BB3.out
                  go_wp2_with fail
                  go_roundw
                  case rel => exact ⟨t + 1, by omega, by go_num, HY.out⟩
                  case measure => simp [intOf]; omega
              · obtain rfl : t = 2 := by omega
                have HX := Lib.hid (belowVia HY.out HX.out)
                clear HY HN
                obtain ⟨mn, md, em, vv, hF⟩ := make_facts n d xb Z1.out Z2.out ZX2.out
                have HF := Lib.hid hF
                clear hF
                have CM1 := HF.out.cm
                have CM2 := HF.out.rk
                unfold StrC at CM1 CM2
                have CV1 := HF.out.va
                have CV2 := HF.out.rv
                unfold ValC at CV1 CV2
                go_upto_region 32 with fail
                have e0 := keptBelow HX.out E0.out
                have d1 := keptBelow HX.out HC0.out
                have hg := lt_of_cell d1
                go_cut [37, 38] (fun sp se wx => ∃ p, sp = .pointer (some ⟨p, 0, none⟩) ∧ se = .int .i64 em ∧ BoxQ p mn md wx ∧ Below wr.heap.size wr wx)
                case first =>
                  go_region_held3 (fun w' => w'.cell? ⟨g, k * 2, none⟩ = some (.string n) ∧ w'.cell? ⟨g, 1, none⟩ = some (.string xb) ∧ Below wr.heap.size wr w')
                    (first | assumption | exact ⟨e0, d1, (Below.refl _ _).drew⟩ | exact m3Keep (by assumption) (alloc_below _ _) | exact m3Keep (by assumption) hB3 | exact m3Swap (by assumption) (by omega) (by omega) | exact m3Store (by assumption) (by omega) (by omega))
                    ((go_at_call 22; (with_reducible refine (CM1 _).mono ?_); rintro e u3 ⟨rfl, hB3⟩; have M3 : wr.heap.size ≤ u3.heap.size := s3Size (by assumption) hB3; (first | have X3 := pairVia hB3 (pairNew _ _ _ _) | skip); (first | (obtain ⟨X5, X6, X7, X8⟩ := X3; (try simp only [alloc_size] at X5 X6 X7 X8); (try simp only [drew_size] at X5 X6 X7 X8)) | skip)))
                  all_goals
                    have HH : Hid (Below wr.heap.size wr _) := And.right (And.right (by assumption))
                    go_wp2_with fail
                    go_meet
                    case rel => first | exact ⟨_, rfl, rfl, BoxQ.new u3 mn md, HH.out⟩ | exact ⟨_, rfl, rfl, BoxQ.stored (x := mn) (y := md) X5 X6, HH.out⟩
                case rest =>
                  obtain ⟨pa, rfl, rfl, bq, hB⟩ := hcut
                  have Bqa := Lib.hid bq
                  have HX := Lib.hid (belowVia hB HX.out)
                  clear bq e0 d1 hg hB
                  go_upto_region 33 with fail
                  have e0 := keptBelow HX.out E0.out
                  have d1 := keptBelow HX.out HC0.out
                  have hg := lt_of_cell d1
                  go_cut [39, 40] (fun sp se wx => ∃ p, sp = .pointer (some ⟨p, 0, none⟩) ∧ se = .int .i64 em ∧ BoxQ p mn md wx ∧ Below wc.heap.size wc wx)
                  case first =>
                    go_region_held3 (fun w' => w'.cell? ⟨g, k * 2, none⟩ = some (.string n) ∧ w'.cell? ⟨g, 1, none⟩ = some (.string xb) ∧ Below wc.heap.size wc w')
                      (first | assumption | exact ⟨e0, d1, (Below.refl _ _).drew⟩ | exact m3Keep (by assumption) (alloc_below _ _) | exact m3Keep (by assumption) hB3 | exact m3Swap (by assumption) (by omega) (by omega) | exact m3Store (by assumption) (by omega) (by omega))
                      ((go_at_call 23; (with_reducible refine (CM2 _).mono ?_); rintro e u3 ⟨rfl, hB3⟩; have M3 : wc.heap.size ≤ u3.heap.size := s3Size (by assumption) hB3; (first | have X3 := pairVia hB3 (pairNew _ _ _ _) | skip); (first | (obtain ⟨X5, X6, X7, X8⟩ := X3; (try simp only [alloc_size] at X5 X6 X7 X8); (try simp only [drew_size] at X5 X6 X7 X8)) | skip)))
                    all_goals
                      have HH : Hid (Below wc.heap.size wc _) := And.right (And.right (by assumption))
                      go_wp2_with fail
                      go_meet
                      case rel => first | exact ⟨_, rfl, rfl, BoxQ.new u3 mn md, HH.out⟩ | exact ⟨_, rfl, rfl, BoxQ.stored (x := mn) (y := md) X5 X6, HH.out⟩
                  case rest =>
                    obtain ⟨pb, rfl, rfl, bq, hB⟩ := hcut
                    have Bqb := Lib.hid bq
                    have HX := Lib.hid (belowVia hB HX.out)
                    have Bqa := Lib.hid (Bqa.out.via hB)
                    clear bq e0 d1 hg hB
                    go_upto_region 34 with fail
                    obtain ⟨e0, e1⟩ : _ ∧ _ := ⟨keptBelow HX.out E0.out, keptBelow HX.out E1.out⟩
                    obtain ⟨b0, b1⟩ := Bqa.out
                    obtain ⟨b2, b3⟩ := Bqb.out
                    have nv : (vv != vv) = false := by simp
                    have ne : (em != em) = false := by simp
                    go_region_held3 (fun w' => w'.cell? ⟨g, k * 2, none⟩ = some (.string n) ∧ w'.cell? ⟨g, k * 2 + 1, none⟩ = some (.string d) ∧ w'.cell? ⟨pa, 0, none⟩ = some (.string mn) ∧ w'.cell? ⟨pa, 1, none⟩ = some (.string md) ∧ w'.cell? ⟨pb, 0, none⟩ = some (.string mn) ∧ w'.cell? ⟨pb, 1, none⟩ = some (.string md) ∧ Below wc.heap.size wc w')
                      (first | exact ⟨e0, e1, b0, b1, b2, b3, (Below.refl _ _).drew⟩ | exact m7Keep (by assumption) hB3 | exact m7Keep (by assumption) hB4)
                      (first
                      | (go_at_call 24; (with_reducible refine (CV1 _).mono ?_); rintro e y3 ⟨rfl, hB3⟩)
                      | (go_at_call 25; (with_reducible refine (CV2 _).mono ?_); rintro e y4 ⟨rfl, hB4⟩))
                    have HH : Hid (Below wc.heap.size wc y4) := (And.right (And.right (And.right (And.right (And.right (And.right (by assumption)))))))
                    have HX := Lib.hid (belowVia HH.out HX.out)
                    clear HH e0 e1 b0 b1 b2 b3 Bqa Bqb
                    go_wp2_with fail
                    go_roundw
                    case rel => exact ⟨k + 1, by omega, by go_num, HX.out⟩
                    case measure => simp [intOf]; omega
    · obtain rfl : k = 5 := by omega
      as_aux_lemma =>
        have HW := Lib.hid (belowVia HB.out HW.out)
        go_wp2_with fail
        refine (HOF.out _ (HT.out.via HW.out)).mono ?_
        rintro e w7 ⟨rfl, hB⟩
        have HW := Lib.hid (belowVia hB HW.out)
        clear hB
        have hB := alloc_below w7 (.cells #[.string (numB oo), .string (denB oo)] 23)
        have HW := Lib.hid (belowVia hB HW.out)
        have B1 := Lib.hid (BoxQ.new w7 (numB oo) (denB oo))
        clear hB
        go_wp2_with fail
        generalize w7.alloc (.cells #[.string (numB oo), .string (denB oo)] 23) = w8 at *
        generalize w7.heap.size = p7 at *
        refine (HRO.out _).mono ?_
        rintro e w9 ⟨rfl, hB⟩
        have HW := Lib.hid (belowVia hB HW.out)
        have B1 := Lib.hid (B1.out.via hB)
        clear hB
        have hB := alloc_below w9 (.cells #[.string (numB oo), .string (denB oo)] 23)
        have HW := Lib.hid (belowVia hB HW.out)
        have B1 := Lib.hid (B1.out.via hB)
        have B2 := Lib.hid (BoxQ.new w9 (numB oo) (denB oo))
        clear hB
        obtain ⟨b0, b1⟩ := B1.out
        obtain ⟨b2, b3⟩ := B2.out
        generalize numB oo = on at *
        generalize denB oo = od at *
        generalize errQ oo = oe at *
        go_wp2_with fail
        go_ret
        exact ⟨by first | rfl | simp, HW.out⟩
end Go.Proofs.YtelckldddflmmaaGreatDoor
