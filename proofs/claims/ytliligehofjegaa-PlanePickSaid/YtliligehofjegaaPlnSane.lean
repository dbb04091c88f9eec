/- The contract of sane. -/
import Derived.Test.YtliligehofjegaaPlnSaneC
namespace Go.Proofs.Ytliligehofjegaa
open Go.RowKit Go.Shelf Pln

set_option maxRecDepth 100000 in
set_option maxHeartbeats 4000000 in
theorem sane_w (w : World) : Calls Try.prog 9 #[] w fun e w' => e = .returned (.bool true) ∧ Below w.heap.size w w' := by
  have HB := Lib.hid (Below.refl w.heap.size w)
  go_enter Try.func9, Try.ntmps9
  go_wp2_with fail
  refine (sn_at _ 0 0).mono ?_
  rintro e w1 ⟨rfl, hB⟩
  replace HB := Lib.hid (belowStep HB.out hB)
  clear hB
  go_wp2_with fail
  refine (sn_at _ 6 0).mono ?_
  rintro e w2 ⟨rfl, hB⟩
  replace HB := Lib.hid (belowStep HB.out hB)
  clear hB
  go_wp2_with fail
  refine (sn_at _ 0 4).mono ?_
  rintro e w3 ⟨rfl, hB⟩
  replace HB := Lib.hid (belowStep HB.out hB)
  clear hB
  have hB := alloc_below w3 (.cells #[.int .i64 0, .int .i64 0, .int .i64 6, .int .i64 0, .int .i64 0, .int .i64 4] 26)
  replace HB := Lib.hid (belowStep HB.out hB)
  clear hB
  have HT : Hid (PtsAt (w3.alloc (.cells #[.int .i64 0, .int .i64 0, .int .i64 6, .int .i64 0, .int .i64 0, .int .i64 4] 26)) (.slice (some ⟨w3.heap.size, 0, none⟩) 3 3) exT) := Lib.hid (built3 w3 (ok_of (by decide)))
  go_wp2_with fail
  refine (sn_at _ 0 0).mono ?_
  rintro e w4 ⟨rfl, hB⟩
  replace HT := Lib.hid (HT.out.via hB)
  replace HB := Lib.hid (belowStep HB.out hB)
  clear hB
  go_wp2_with fail
  refine (sn_at _ 4 0).mono ?_
  rintro e w5 ⟨rfl, hB⟩
  replace HT := Lib.hid (HT.out.via hB)
  replace HB := Lib.hid (belowStep HB.out hB)
  clear hB
  go_wp2_with fail
  refine (sn_at _ 4 4).mono ?_
  rintro e w6 ⟨rfl, hB⟩
  replace HT := Lib.hid (HT.out.via hB)
  replace HB := Lib.hid (belowStep HB.out hB)
  clear hB
  go_wp2_with fail
  refine (sn_at _ 0 4).mono ?_
  rintro e w7 ⟨rfl, hB⟩
  replace HT := Lib.hid (HT.out.via hB)
  replace HB := Lib.hid (belowStep HB.out hB)
  clear hB
  have hB := alloc_below w7 (.cells #[.int .i64 0, .int .i64 0, .int .i64 4, .int .i64 0, .int .i64 4, .int .i64 4, .int .i64 0, .int .i64 4] 26)
  replace HT := Lib.hid (HT.out.via hB)
  replace HB := Lib.hid (belowStep HB.out hB)
  clear hB
  have HS : Hid (PtsAt (w7.alloc (.cells #[.int .i64 0, .int .i64 0, .int .i64 4, .int .i64 0, .int .i64 4, .int .i64 4, .int .i64 0, .int .i64 4] 26)) (.slice (some ⟨w7.heap.size, 0, none⟩) 4 4) exS) := Lib.hid (built4 w7 (ok_of (by decide)))
  go_wp2_with fail
  refine (sn_at _ 4 2).mono ?_
  rintro e w8 ⟨rfl, hB⟩
  replace HT := Lib.hid (HT.out.via hB)
  replace HS := Lib.hid (HS.out.via hB)
  replace HB := Lib.hid (belowStep HB.out hB)
  clear hB
  go_wp2_with fail
  refine (sn_at _ 8 2).mono ?_
  rintro e w9 ⟨rfl, hB⟩
  replace HT := Lib.hid (HT.out.via hB)
  replace HS := Lib.hid (HS.out.via hB)
  replace HB := Lib.hid (belowStep HB.out hB)
  clear hB
  go_wp2_with fail
  refine (sn_at _ 8 6).mono ?_
  rintro e w10 ⟨rfl, hB⟩
  replace HT := Lib.hid (HT.out.via hB)
  replace HS := Lib.hid (HS.out.via hB)
  replace HB := Lib.hid (belowStep HB.out hB)
  clear hB
  go_wp2_with fail
  refine (sn_at _ 4 6).mono ?_
  rintro e w11 ⟨rfl, hB⟩
  replace HT := Lib.hid (HT.out.via hB)
  replace HS := Lib.hid (HS.out.via hB)
  replace HB := Lib.hid (belowStep HB.out hB)
  clear hB
  have hB := alloc_below w11 (.cells #[.int .i64 4, .int .i64 2, .int .i64 8, .int .i64 2, .int .i64 8, .int .i64 6, .int .i64 4, .int .i64 6] 26)
  replace HT := Lib.hid (HT.out.via hB)
  replace HS := Lib.hid (HS.out.via hB)
  replace HB := Lib.hid (belowStep HB.out hB)
  clear hB
  have HU : Hid (PtsAt (w11.alloc (.cells #[.int .i64 4, .int .i64 2, .int .i64 8, .int .i64 2, .int .i64 8, .int .i64 6, .int .i64 4, .int .i64 6] 26)) (.slice (some ⟨w11.heap.size, 0, none⟩) 4 4) exU) := Lib.hid (built4 w11 (ok_of (by decide)))
  go_wp2_with fail
  refine (sn_at _ 3 3).mono ?_
  rintro e w12 ⟨rfl, hB⟩
  replace HT := Lib.hid (HT.out.via hB)
  replace HS := Lib.hid (HS.out.via hB)
  replace HU := Lib.hid (HU.out.via hB)
  replace HB := Lib.hid (belowStep HB.out hB)
  clear hB
  go_wp2_with fail
  refine (sn_at _ 7 3).mono ?_
  rintro e w13 ⟨rfl, hB⟩
  replace HT := Lib.hid (HT.out.via hB)
  replace HS := Lib.hid (HS.out.via hB)
  replace HU := Lib.hid (HU.out.via hB)
  replace HB := Lib.hid (belowStep HB.out hB)
  clear hB
  go_wp2_with fail
  refine (sn_at _ 3 7).mono ?_
  rintro e w14 ⟨rfl, hB⟩
  replace HT := Lib.hid (HT.out.via hB)
  replace HS := Lib.hid (HS.out.via hB)
  replace HU := Lib.hid (HU.out.via hB)
  replace HB := Lib.hid (belowStep HB.out hB)
  clear hB
  have hB := alloc_below w14 (.cells #[.int .i64 3, .int .i64 3, .int .i64 7, .int .i64 3, .int .i64 3, .int .i64 7] 26)
  replace HT := Lib.hid (HT.out.via hB)
  replace HS := Lib.hid (HS.out.via hB)
  replace HU := Lib.hid (HU.out.via hB)
  replace HB := Lib.hid (belowStep HB.out hB)
  clear hB
  have HV : Hid (PtsAt (w14.alloc (.cells #[.int .i64 3, .int .i64 3, .int .i64 7, .int .i64 3, .int .i64 3, .int .i64 7] 26)) (.slice (some ⟨w14.heap.size, 0, none⟩) 3 3) exV) := Lib.hid (built3 w14 (ok_of (by decide)))
  go_wp2_with fail
  refine (sn_mom _ _ HT.out).mono ?_
  rintro e w15 ⟨rfl, hB⟩
  replace HT := Lib.hid (HT.out.via hB)
  replace HS := Lib.hid (HS.out.via hB)
  replace HU := Lib.hid (HU.out.via hB)
  replace HV := Lib.hid (HV.out.via hB)
  replace HB := Lib.hid (belowStep HB.out hB)
  clear hB
  go_wp2_with fail
  refine (sn_lat _ _ HT.out).mono ?_
  rintro e w16 ⟨rfl, hB⟩
  replace HT := Lib.hid (HT.out.via hB)
  replace HS := Lib.hid (HS.out.via hB)
  replace HU := Lib.hid (HU.out.via hB)
  replace HV := Lib.hid (HV.out.via hB)
  replace HB := Lib.hid (belowStep HB.out hB)
  clear hB
  go_wp2_with fail
  refine (sn_cut _ _ HS.out).mono ?_
  rintro e w17 ⟨ra, rb, rfl, hra, hrb, hB⟩
  replace HT := Lib.hid (HT.out.via hB)
  replace HS := Lib.hid (HS.out.via hB)
  replace HU := Lib.hid (HU.out.via hB)
  replace HV := Lib.hid (HV.out.via hB)
  replace HB := Lib.hid (belowStep HB.out hB)
  clear hB
  have HRA := Lib.hid hra
  have HRB := Lib.hid hrb
  clear hra hrb
  go_wp2_with fail
  refine (sn_cut2 _ _ HS.out).mono ?_
  rintro e w18 ⟨rfl, hB⟩
  replace HT := Lib.hid (HT.out.via hB)
  replace HS := Lib.hid (HS.out.via hB)
  replace HU := Lib.hid (HU.out.via hB)
  replace HV := Lib.hid (HV.out.via hB)
  replace HRA := Lib.hid (HRA.out.via hB)
  replace HRB := Lib.hid (HRB.out.via hB)
  replace HB := Lib.hid (belowStep HB.out hB)
  clear hB
  go_wp2_with fail
  refine (sn_move _ _ HT.out).mono ?_
  rintro e w19 ⟨rm, rfl, hrm, hB⟩
  replace HT := Lib.hid (HT.out.via hB)
  replace HS := Lib.hid (HS.out.via hB)
  replace HU := Lib.hid (HU.out.via hB)
  replace HV := Lib.hid (HV.out.via hB)
  replace HRA := Lib.hid (HRA.out.via hB)
  replace HRB := Lib.hid (HRB.out.via hB)
  replace HB := Lib.hid (belowStep HB.out hB)
  clear hB
  have HRM := Lib.hid hrm
  clear hrm
  go_wp2_with fail
  refine (sn_seam _ _ _ HS.out HU.out).mono ?_
  rintro e w20 ⟨rfl, hB⟩
  replace HT := Lib.hid (HT.out.via hB)
  replace HS := Lib.hid (HS.out.via hB)
  replace HU := Lib.hid (HU.out.via hB)
  replace HV := Lib.hid (HV.out.via hB)
  replace HRA := Lib.hid (HRA.out.via hB)
  replace HRB := Lib.hid (HRB.out.via hB)
  replace HRM := Lib.hid (HRM.out.via hB)
  replace HB := Lib.hid (belowStep HB.out hB)
  clear hB
  have HX1 := Lib.hid (heap_alloc_new w20 (.cells #[.int .i64 4, .int .i64 2, .int .i64 4, .int .i64 4] 48))
  have hB := alloc_below w20 (.cells #[.int .i64 4, .int .i64 2, .int .i64 4, .int .i64 4] 48)
  replace HT := Lib.hid (HT.out.via hB)
  replace HS := Lib.hid (HS.out.via hB)
  replace HU := Lib.hid (HU.out.via hB)
  replace HV := Lib.hid (HV.out.via hB)
  replace HRA := Lib.hid (HRA.out.via hB)
  replace HRB := Lib.hid (HRB.out.via hB)
  replace HRM := Lib.hid (HRM.out.via hB)
  replace HB := Lib.hid (belowStep HB.out hB)
  clear hB
  go_wp2_with fail
  refine (sn_seam2 _ _ _ HU.out HS.out).mono ?_
  rintro e w21 ⟨rfl, hB⟩
  replace HT := Lib.hid (HT.out.via hB)
  replace HS := Lib.hid (HS.out.via hB)
  replace HU := Lib.hid (HU.out.via hB)
  replace HV := Lib.hid (HV.out.via hB)
  replace HRA := Lib.hid (HRA.out.via hB)
  replace HRB := Lib.hid (HRB.out.via hB)
  replace HRM := Lib.hid (HRM.out.via hB)
  replace HX1 := Lib.hid (heap_below hB HX1.out)
  replace HB := Lib.hid (belowStep HB.out hB)
  clear hB
  have HX2 := Lib.hid (heap_alloc_new w21 (.cells #[.int .i64 4, .int .i64 4, .int .i64 4, .int .i64 2] 48))
  have hB := alloc_below w21 (.cells #[.int .i64 4, .int .i64 4, .int .i64 4, .int .i64 2] 48)
  replace HT := Lib.hid (HT.out.via hB)
  replace HS := Lib.hid (HS.out.via hB)
  replace HU := Lib.hid (HU.out.via hB)
  replace HV := Lib.hid (HV.out.via hB)
  replace HRA := Lib.hid (HRA.out.via hB)
  replace HRB := Lib.hid (HRB.out.via hB)
  replace HRM := Lib.hid (HRM.out.via hB)
  replace HX1 := Lib.hid (heap_below hB HX1.out)
  replace HB := Lib.hid (belowStep HB.out hB)
  clear hB
  go_wp2_with fail
  refine (sn_side _ _ _ HS.out HU.out).mono ?_
  rintro e w22 ⟨rfl, hB⟩
  replace HT := Lib.hid (HT.out.via hB)
  replace HS := Lib.hid (HS.out.via hB)
  replace HU := Lib.hid (HU.out.via hB)
  replace HV := Lib.hid (HV.out.via hB)
  replace HRA := Lib.hid (HRA.out.via hB)
  replace HRB := Lib.hid (HRB.out.via hB)
  replace HRM := Lib.hid (HRM.out.via hB)
  replace HX1 := Lib.hid (heap_below hB HX1.out)
  replace HX2 := Lib.hid (heap_below hB HX2.out)
  replace HB := Lib.hid (belowStep HB.out hB)
  clear hB
  go_wp2_with fail
  refine (sn_side2 _ _ _ HS.out HV.out).mono ?_
  rintro e w23 ⟨rfl, hB⟩
  replace HT := Lib.hid (HT.out.via hB)
  replace HS := Lib.hid (HS.out.via hB)
  replace HU := Lib.hid (HU.out.via hB)
  replace HV := Lib.hid (HV.out.via hB)
  replace HRA := Lib.hid (HRA.out.via hB)
  replace HRB := Lib.hid (HRB.out.via hB)
  replace HRM := Lib.hid (HRM.out.via hB)
  replace HX1 := Lib.hid (heap_below hB HX1.out)
  replace HX2 := Lib.hid (heap_below hB HX2.out)
  replace HB := Lib.hid (belowStep HB.out hB)
  clear hB
  go_wp2_with fail
  refine (sn_area _ _ HT.out).mono ?_
  rintro e w24 ⟨rfl, hB⟩
  replace HT := Lib.hid (HT.out.via hB)
  replace HS := Lib.hid (HS.out.via hB)
  replace HU := Lib.hid (HU.out.via hB)
  replace HV := Lib.hid (HV.out.via hB)
  replace HRA := Lib.hid (HRA.out.via hB)
  replace HRB := Lib.hid (HRB.out.via hB)
  replace HRM := Lib.hid (HRM.out.via hB)
  replace HX1 := Lib.hid (heap_below hB HX1.out)
  replace HX2 := Lib.hid (heap_below hB HX2.out)
  replace HB := Lib.hid (belowStep HB.out hB)
  clear hB
  go_wp2_with fail
  refine (sn_at _ 2 2).mono ?_
  rintro e w25 ⟨rfl, hB⟩
  replace HT := Lib.hid (HT.out.via hB)
  replace HS := Lib.hid (HS.out.via hB)
  replace HU := Lib.hid (HU.out.via hB)
  replace HV := Lib.hid (HV.out.via hB)
  replace HRA := Lib.hid (HRA.out.via hB)
  replace HRB := Lib.hid (HRB.out.via hB)
  replace HRM := Lib.hid (HRM.out.via hB)
  replace HX1 := Lib.hid (heap_below hB HX1.out)
  replace HX2 := Lib.hid (heap_below hB HX2.out)
  replace HB := Lib.hid (belowStep HB.out hB)
  clear hB
  go_wp2_with fail
  refine (sn_in1 _ _ HS.out).mono ?_
  rintro e w26 ⟨rfl, hB⟩
  replace HT := Lib.hid (HT.out.via hB)
  replace HS := Lib.hid (HS.out.via hB)
  replace HU := Lib.hid (HU.out.via hB)
  replace HV := Lib.hid (HV.out.via hB)
  replace HRA := Lib.hid (HRA.out.via hB)
  replace HRB := Lib.hid (HRB.out.via hB)
  replace HRM := Lib.hid (HRM.out.via hB)
  replace HX1 := Lib.hid (heap_below hB HX1.out)
  replace HX2 := Lib.hid (heap_below hB HX2.out)
  replace HB := Lib.hid (belowStep HB.out hB)
  clear hB
  go_wp2_with fail
  refine (sn_at _ 4 4).mono ?_
  rintro e w27 ⟨rfl, hB⟩
  replace HT := Lib.hid (HT.out.via hB)
  replace HS := Lib.hid (HS.out.via hB)
  replace HU := Lib.hid (HU.out.via hB)
  replace HV := Lib.hid (HV.out.via hB)
  replace HRA := Lib.hid (HRA.out.via hB)
  replace HRB := Lib.hid (HRB.out.via hB)
  replace HRM := Lib.hid (HRM.out.via hB)
  replace HX1 := Lib.hid (heap_below hB HX1.out)
  replace HX2 := Lib.hid (heap_below hB HX2.out)
  replace HB := Lib.hid (belowStep HB.out hB)
  clear hB
  go_wp2_with fail
  refine (sn_in2 _ _ HS.out).mono ?_
  rintro e w28 ⟨rfl, hB⟩
  replace HT := Lib.hid (HT.out.via hB)
  replace HS := Lib.hid (HS.out.via hB)
  replace HU := Lib.hid (HU.out.via hB)
  replace HV := Lib.hid (HV.out.via hB)
  replace HRA := Lib.hid (HRA.out.via hB)
  replace HRB := Lib.hid (HRB.out.via hB)
  replace HRM := Lib.hid (HRM.out.via hB)
  replace HX1 := Lib.hid (heap_below hB HX1.out)
  replace HX2 := Lib.hid (heap_below hB HX2.out)
  replace HB := Lib.hid (belowStep HB.out hB)
  clear hB
  go_wp2_with fail
  refine (sn_at _ 5 5).mono ?_
  rintro e w29 ⟨rfl, hB⟩
  replace HT := Lib.hid (HT.out.via hB)
  replace HS := Lib.hid (HS.out.via hB)
  replace HU := Lib.hid (HU.out.via hB)
  replace HV := Lib.hid (HV.out.via hB)
  replace HRA := Lib.hid (HRA.out.via hB)
  replace HRB := Lib.hid (HRB.out.via hB)
  replace HRM := Lib.hid (HRM.out.via hB)
  replace HX1 := Lib.hid (heap_below hB HX1.out)
  replace HX2 := Lib.hid (heap_below hB HX2.out)
  replace HB := Lib.hid (belowStep HB.out hB)
  clear hB
  go_wp2_with fail
  refine (sn_in3 _ _ HS.out).mono ?_
  rintro e w30 ⟨rfl, hB⟩
  replace HT := Lib.hid (HT.out.via hB)
  replace HS := Lib.hid (HS.out.via hB)
  replace HU := Lib.hid (HU.out.via hB)
  replace HV := Lib.hid (HV.out.via hB)
  replace HRA := Lib.hid (HRA.out.via hB)
  replace HRB := Lib.hid (HRB.out.via hB)
  replace HRM := Lib.hid (HRM.out.via hB)
  replace HX1 := Lib.hid (heap_below hB HX1.out)
  replace HX2 := Lib.hid (heap_below hB HX2.out)
  replace HB := Lib.hid (belowStep HB.out hB)
  clear hB
  go_wp2_with fail
  refine (sn_cell1 _ _ HT.out).mono ?_
  rintro e w31 ⟨rfl, hB⟩
  replace HT := Lib.hid (HT.out.via hB)
  replace HS := Lib.hid (HS.out.via hB)
  replace HU := Lib.hid (HU.out.via hB)
  replace HV := Lib.hid (HV.out.via hB)
  replace HRA := Lib.hid (HRA.out.via hB)
  replace HRB := Lib.hid (HRB.out.via hB)
  replace HRM := Lib.hid (HRM.out.via hB)
  replace HX1 := Lib.hid (heap_below hB HX1.out)
  replace HX2 := Lib.hid (heap_below hB HX2.out)
  replace HB := Lib.hid (belowStep HB.out hB)
  clear hB
  go_wp2_with fail
  refine (sn_cell2 _ _ HT.out).mono ?_
  rintro e w32 ⟨rfl, hB⟩
  replace HT := Lib.hid (HT.out.via hB)
  replace HS := Lib.hid (HS.out.via hB)
  replace HU := Lib.hid (HU.out.via hB)
  replace HV := Lib.hid (HV.out.via hB)
  replace HRA := Lib.hid (HRA.out.via hB)
  replace HRB := Lib.hid (HRB.out.via hB)
  replace HRM := Lib.hid (HRM.out.via hB)
  replace HX1 := Lib.hid (heap_below hB HX1.out)
  replace HX2 := Lib.hid (heap_below hB HX2.out)
  replace HB := Lib.hid (belowStep HB.out hB)
  clear hB
  go_wp2_with fail
  refine (sn_same _ _ _ (by simp) HRA.out (at_first HS.out (by omega))).mono ?_
  rintro e w33 ⟨rfl, hB⟩
  replace HT := Lib.hid (HT.out.via hB)
  replace HS := Lib.hid (HS.out.via hB)
  replace HU := Lib.hid (HU.out.via hB)
  replace HV := Lib.hid (HV.out.via hB)
  replace HRA := Lib.hid (HRA.out.via hB)
  replace HRB := Lib.hid (HRB.out.via hB)
  replace HRM := Lib.hid (HRM.out.via hB)
  replace HX1 := Lib.hid (heap_below hB HX1.out)
  replace HX2 := Lib.hid (heap_below hB HX2.out)
  replace HB := Lib.hid (belowStep HB.out hB)
  clear hB
  go_wp2_with fail
  refine (sn_at _ 4 4).mono ?_
  rintro e w34 ⟨rfl, hB⟩
  replace HT := Lib.hid (HT.out.via hB)
  replace HS := Lib.hid (HS.out.via hB)
  replace HU := Lib.hid (HU.out.via hB)
  replace HV := Lib.hid (HV.out.via hB)
  replace HRA := Lib.hid (HRA.out.via hB)
  replace HRB := Lib.hid (HRB.out.via hB)
  replace HRM := Lib.hid (HRM.out.via hB)
  replace HX1 := Lib.hid (heap_below hB HX1.out)
  replace HX2 := Lib.hid (heap_below hB HX2.out)
  replace HB := Lib.hid (belowStep HB.out hB)
  clear hB
  go_wp2_with fail
  refine (sn_at _ 0 4).mono ?_
  rintro e w35 ⟨rfl, hB⟩
  replace HT := Lib.hid (HT.out.via hB)
  replace HS := Lib.hid (HS.out.via hB)
  replace HU := Lib.hid (HU.out.via hB)
  replace HV := Lib.hid (HV.out.via hB)
  replace HRA := Lib.hid (HRA.out.via hB)
  replace HRB := Lib.hid (HRB.out.via hB)
  replace HRM := Lib.hid (HRM.out.via hB)
  replace HX1 := Lib.hid (heap_below hB HX1.out)
  replace HX2 := Lib.hid (heap_below hB HX2.out)
  replace HB := Lib.hid (belowStep HB.out hB)
  clear hB
  go_wp2_with fail
  refine (sn_at _ 0 0).mono ?_
  rintro e w36 ⟨rfl, hB⟩
  replace HT := Lib.hid (HT.out.via hB)
  replace HS := Lib.hid (HS.out.via hB)
  replace HU := Lib.hid (HU.out.via hB)
  replace HV := Lib.hid (HV.out.via hB)
  replace HRA := Lib.hid (HRA.out.via hB)
  replace HRB := Lib.hid (HRB.out.via hB)
  replace HRM := Lib.hid (HRM.out.via hB)
  replace HX1 := Lib.hid (heap_below hB HX1.out)
  replace HX2 := Lib.hid (heap_below hB HX2.out)
  replace HB := Lib.hid (belowStep HB.out hB)
  clear hB
  have hB := alloc_below w36 (.cells #[.int .i64 4, .int .i64 4, .int .i64 0, .int .i64 4, .int .i64 0, .int .i64 0] 26)
  replace HT := Lib.hid (HT.out.via hB)
  replace HS := Lib.hid (HS.out.via hB)
  replace HU := Lib.hid (HU.out.via hB)
  replace HV := Lib.hid (HV.out.via hB)
  replace HRA := Lib.hid (HRA.out.via hB)
  replace HRB := Lib.hid (HRB.out.via hB)
  replace HRM := Lib.hid (HRM.out.via hB)
  replace HX1 := Lib.hid (heap_below hB HX1.out)
  replace HX2 := Lib.hid (heap_below hB HX2.out)
  replace HB := Lib.hid (belowStep HB.out hB)
  clear hB
  have HN1 : Hid (PtsAt (w36.alloc (.cells #[.int .i64 4, .int .i64 4, .int .i64 0, .int .i64 4, .int .i64 0, .int .i64 0] 26)) (.slice (some ⟨w36.heap.size, 0, none⟩) 3 3) [(4, 4), (0, 4), (0, 0)]) := Lib.hid (built3 w36 (ok_of (by decide)))
  go_wp2_with fail
  refine (sn_same _ _ _ (by simp) HRB.out HN1.out).mono ?_
  rintro e w37 ⟨rfl, hB⟩
  replace HT := Lib.hid (HT.out.via hB)
  replace HS := Lib.hid (HS.out.via hB)
  replace HU := Lib.hid (HU.out.via hB)
  replace HV := Lib.hid (HV.out.via hB)
  replace HRA := Lib.hid (HRA.out.via hB)
  replace HRB := Lib.hid (HRB.out.via hB)
  replace HRM := Lib.hid (HRM.out.via hB)
  replace HX1 := Lib.hid (heap_below hB HX1.out)
  replace HX2 := Lib.hid (heap_below hB HX2.out)
  replace HB := Lib.hid (belowStep HB.out hB)
  clear hB
  go_wp2_with fail
  refine (sn_at _ 1 2).mono ?_
  rintro e w38 ⟨rfl, hB⟩
  replace HT := Lib.hid (HT.out.via hB)
  replace HS := Lib.hid (HS.out.via hB)
  replace HU := Lib.hid (HU.out.via hB)
  replace HV := Lib.hid (HV.out.via hB)
  replace HRA := Lib.hid (HRA.out.via hB)
  replace HRB := Lib.hid (HRB.out.via hB)
  replace HRM := Lib.hid (HRM.out.via hB)
  replace HX1 := Lib.hid (heap_below hB HX1.out)
  replace HX2 := Lib.hid (heap_below hB HX2.out)
  replace HB := Lib.hid (belowStep HB.out hB)
  clear hB
  go_wp2_with fail
  refine (sn_at _ 7 2).mono ?_
  rintro e w39 ⟨rfl, hB⟩
  replace HT := Lib.hid (HT.out.via hB)
  replace HS := Lib.hid (HS.out.via hB)
  replace HU := Lib.hid (HU.out.via hB)
  replace HV := Lib.hid (HV.out.via hB)
  replace HRA := Lib.hid (HRA.out.via hB)
  replace HRB := Lib.hid (HRB.out.via hB)
  replace HRM := Lib.hid (HRM.out.via hB)
  replace HX1 := Lib.hid (heap_below hB HX1.out)
  replace HX2 := Lib.hid (heap_below hB HX2.out)
  replace HB := Lib.hid (belowStep HB.out hB)
  clear hB
  go_wp2_with fail
  refine (sn_at _ 1 6).mono ?_
  rintro e w40 ⟨rfl, hB⟩
  replace HT := Lib.hid (HT.out.via hB)
  replace HS := Lib.hid (HS.out.via hB)
  replace HU := Lib.hid (HU.out.via hB)
  replace HV := Lib.hid (HV.out.via hB)
  replace HRA := Lib.hid (HRA.out.via hB)
  replace HRB := Lib.hid (HRB.out.via hB)
  replace HRM := Lib.hid (HRM.out.via hB)
  replace HX1 := Lib.hid (heap_below hB HX1.out)
  replace HX2 := Lib.hid (heap_below hB HX2.out)
  replace HB := Lib.hid (belowStep HB.out hB)
  clear hB
  have hB := alloc_below w40 (.cells #[.int .i64 1, .int .i64 2, .int .i64 7, .int .i64 2, .int .i64 1, .int .i64 6] 26)
  replace HT := Lib.hid (HT.out.via hB)
  replace HS := Lib.hid (HS.out.via hB)
  replace HU := Lib.hid (HU.out.via hB)
  replace HV := Lib.hid (HV.out.via hB)
  replace HRA := Lib.hid (HRA.out.via hB)
  replace HRB := Lib.hid (HRB.out.via hB)
  replace HRM := Lib.hid (HRM.out.via hB)
  replace HX1 := Lib.hid (heap_below hB HX1.out)
  replace HX2 := Lib.hid (heap_below hB HX2.out)
  replace HB := Lib.hid (belowStep HB.out hB)
  clear hB
  have HN2 : Hid (PtsAt (w40.alloc (.cells #[.int .i64 1, .int .i64 2, .int .i64 7, .int .i64 2, .int .i64 1, .int .i64 6] 26)) (.slice (some ⟨w40.heap.size, 0, none⟩) 3 3) [(1, 2), (7, 2), (1, 6)]) := Lib.hid (built3 w40 (ok_of (by decide)))
  go_wp2_with fail
  refine (sn_same _ _ _ (by simp) HRM.out HN2.out).mono ?_
  rintro e w41 ⟨rfl, hB⟩
  replace HT := Lib.hid (HT.out.via hB)
  replace HS := Lib.hid (HS.out.via hB)
  replace HU := Lib.hid (HU.out.via hB)
  replace HV := Lib.hid (HV.out.via hB)
  replace HRA := Lib.hid (HRA.out.via hB)
  replace HRB := Lib.hid (HRB.out.via hB)
  replace HRM := Lib.hid (HRM.out.via hB)
  replace HX1 := Lib.hid (heap_below hB HX1.out)
  replace HX2 := Lib.hid (heap_below hB HX2.out)
  replace HB := Lib.hid (belowStep HB.out hB)
  clear hB
  go_wp2_with fail
  refine (wpIn_wide (n := 5)).1 ?_
  refine wpIn_region_T (fun w' => Below w41.drew.heap.size w41.drew w') 10 (by kernel_rfl) ?_
  have hd : Below w41.heap.size w41 w41.drew := (Below.refl _ _).drew
  generalize w41.drew = wd at *
  replace HT := Lib.hid (HT.out.via hd)
  replace HS := Lib.hid (HS.out.via hd)
  replace HU := Lib.hid (HU.out.via hd)
  replace HV := Lib.hid (HV.out.via hd)
  replace HRA := Lib.hid (HRA.out.via hd)
  replace HRB := Lib.hid (HRB.out.via hd)
  replace HRM := Lib.hid (HRM.out.via hd)
  have HWD := Lib.hid (belowStep HB.out hd)
  have HX1 := heap_below hd HX1.out
  have x0 := cell_heap HX1 (i := 0) rfl
  have x1 := cell_heap HX1 (i := 1) rfl
  have x2 := cell_heap HX1 (i := 2) rfl
  have x3 := cell_heap HX1 (i := 3) rfl
  clear HX1
  have HX2 := heap_below hd HX2.out
  have y0 := cell_heap HX2 (i := 0) rfl
  have y1 := cell_heap HX2 (i := 1) rfl
  have y2 := cell_heap HX2 (i := 2) rfl
  have y3 := cell_heap HX2 (i := 3) rfl
  clear HX2
  refine wpT_tk 0 192 (v := ?_) (Below.refl _ _) rfl rfl (by rfl) (hy := fun w hw => ?_) (h := ?_)
  rotate_left
  · have x0 := keptBelow hw x0; have x1 := keptBelow hw x1; have x2 := keptBelow hw x2; have x3 := keptBelow hw x3; go_simp; with_reducible rfl
  try simp only [Act.put, List.setIfInBounds_toArray, List.set_cons_zero, List.set_cons_succ]
  refine wpT_oneW 1 rfl (by rfl) (by kernel_rfl) ?_
  go_simp
  refine ⟨trivial, ?_⟩
  refine (callsIn_wide.2 (sn_at _ 4 2)).mono ?_
  rintro e v1 ⟨rfl, hB⟩
  refine ⟨hB, ?_⟩
  have h1 := hB
  clear hB
  refine wpT_oneW 2 rfl (by rfl) (by kernel_rfl) ?_
  go_simp
  refine ⟨trivial, ?_⟩
  refine (callsIn_wide.2 (sn_at _ 4 4)).mono ?_
  rintro e v2 ⟨rfl, hB⟩
  refine ⟨belowStep h1 hB, ?_⟩
  replace h1 := belowStep h1 hB
  clear hB
  refine wpT_oneW 3 rfl (by rfl) (by kernel_rfl) ?_
  go_simp
  refine wpT_oneW 4 rfl (by rfl) (by kernel_rfl) ?_
  go_simp
  refine wpT_oneW 5 rfl (by rfl) (by kernel_rfl) ?_
  go_simp
  refine wpT_tk 6 198 (v := ?_) h1 rfl rfl (by rfl) (hy := fun w hw => ?_) (h := ?_)
  rotate_left
  · have y0 := keptBelow hw y0; have y1 := keptBelow hw y1; have y2 := keptBelow hw y2; have y3 := keptBelow hw y3; go_simp; with_reducible rfl
  try simp only [Act.put, List.setIfInBounds_toArray, List.set_cons_zero, List.set_cons_succ]
  refine wpT_oneW 7 rfl (by rfl) (by kernel_rfl) ?_
  go_simp
  refine ⟨trivial, ?_⟩
  refine (callsIn_wide.2 (sn_at _ 4 4)).mono ?_
  rintro e v3 ⟨rfl, hB⟩
  refine ⟨belowStep h1 hB, ?_⟩
  replace h1 := belowStep h1 hB
  clear hB
  refine wpT_oneW 8 rfl (by rfl) (by kernel_rfl) ?_
  go_simp
  refine ⟨trivial, ?_⟩
  refine (callsIn_wide.2 (sn_at _ 4 2)).mono ?_
  rintro e v4 ⟨rfl, hB⟩
  refine ⟨belowStep h1 hB, ?_⟩
  replace h1 := belowStep h1 hB
  clear hB
  refine wpT_oneW 9 rfl (by rfl) (by kernel_rfl) ?_
  go_simp
  refine wpT_oneW 10 rfl (by rfl) (by kernel_rfl) ?_
  go_simp
  refine wpT_oneW 11 rfl (by rfl) (by kernel_rfl) ?_
  go_simp
  refine wpT_oneW 12 rfl (by rfl) (by kernel_rfl) ?_
  go_simp
  refine wpT_oneW 13 rfl (by rfl) (by kernel_rfl) ?_
  go_simp
  refine wpT_oneW 14 rfl (by rfl) (by kernel_rfl) ?_
  go_simp
  refine wpT_oneW 15 rfl (by rfl) (by kernel_rfl) ?_
  go_simp
  refine wpT_oneW 16 rfl (by rfl) (by kernel_rfl) ?_
  go_simp
  refine wpT_oneW 17 rfl (by rfl) (by kernel_rfl) ?_
  go_simp
  refine wpT_oneW 18 rfl (by rfl) (by kernel_rfl) ?_
  go_simp
  refine wpT_oneW 19 rfl (by rfl) (by kernel_rfl) ?_
  go_simp
  refine wpT_oneW 20 rfl (by rfl) (by kernel_rfl) ?_
  go_simp
  refine wpT_done (by kernel_rfl) ?_ _
  replace HT := Lib.hid (HT.out.via h1)
  replace HS := Lib.hid (HS.out.via h1)
  replace HU := Lib.hid (HU.out.via h1)
  replace HV := Lib.hid (HV.out.via h1)
  replace HB := Lib.hid (belowStep HWD.out h1)
  clear hd HWD h1 HRA HRB HRM x0 y0 x1 y1 x2 y2 x3 y3
  go_wp2_with fail
  refine (sn_valid _ _ HT.out).mono ?_
  rintro e w42 ⟨rfl, hB⟩
  replace HT := Lib.hid (HT.out.via hB)
  replace HS := Lib.hid (HS.out.via hB)
  replace HU := Lib.hid (HU.out.via hB)
  replace HV := Lib.hid (HV.out.via hB)
  replace HB := Lib.hid (belowStep HB.out hB)
  clear hB
  go_wp2_with fail
  refine (sn_valid2 _ _ (at_first HT.out (by omega))).mono ?_
  rintro e w43 ⟨rfl, hB⟩
  replace HT := Lib.hid (HT.out.via hB)
  replace HS := Lib.hid (HS.out.via hB)
  replace HU := Lib.hid (HU.out.via hB)
  replace HV := Lib.hid (HV.out.via hB)
  replace HB := Lib.hid (belowStep HB.out hB)
  clear hB
  go_wp2_with fail
  refine (sn_over _ _ _ HS.out HU.out).mono ?_
  rintro e w44 ⟨rfl, hB⟩
  replace HT := Lib.hid (HT.out.via hB)
  replace HS := Lib.hid (HS.out.via hB)
  replace HU := Lib.hid (HU.out.via hB)
  replace HV := Lib.hid (HV.out.via hB)
  replace HB := Lib.hid (belowStep HB.out hB)
  clear hB
  go_wp2_with fail
  refine (sn_over2 _ _ _ HS.out HV.out).mono ?_
  rintro e w45 ⟨rfl, hB⟩
  replace HT := Lib.hid (HT.out.via hB)
  replace HS := Lib.hid (HS.out.via hB)
  replace HU := Lib.hid (HU.out.via hB)
  replace HV := Lib.hid (HV.out.via hB)
  replace HB := Lib.hid (belowStep HB.out hB)
  clear hB
  go_wp2_with fail
  go_ret
  exact ⟨rfl, HB.out⟩
end Go.Proofs.Ytliligehofjegaa
