/- RationalField: what the law's body answers. -/
import Derived.Test.YtelckldddflmmaaGreatDoorRMRatFieldF
import Derived.Test.YtelckldddflmmaaGreatDoorRM6
namespace Go.Proofs.YtelckldddflmmaaGreatDoor
open Go.RowKit Putlog

theorem boxRow {w : World} {p : Nat} {x y : ByteArray} (h : w.heap[p]? = some (.cells #[.string x, .string y] 23 (0, 0))) : BoxQ p x y w := ⟨(cell2 h).1, (cell2b h).1⟩
set_option maxRecDepth 100000 in
set_option maxHeartbeats 8000000 in
theorem Field_calls (x0 x1 x2 x3 y0 y1 y2 y3 z0 z1 : Int) (lg : Bool) (W : World) (hx0 : I64 x0) (hx1 : I64 x1) (hx2 : I64 x2) (hx3 : I64 x3) (hy0 : I64 y0) (hy1 : I64 y1) (hy2 : I64 y2) (hy3 : I64 y3) (hz0 : I64 z0) (hz1 : I64 z1) (hT : TabP W) :
    Calls Tryz.prog 5 #[.agg #[.int .i64 x0, .int .i64 x1, .int .i64 x2, .int .i64 x3], .agg #[.int .i64 y0, .int .i64 y1, .int .i64 y2, .int .i64 y3], .agg #[.int .i64 z0, .int .i64 z1], .bool lg] W fun e w' => e = .returned (.bool true) ∧ Below W.heap.size W w' := by
  have HSX := Lib.hid (fun W => small_q x0 x1 hx0 hx1 W)
  have HSY := Lib.hid (fun W => small_q y0 y1 hy0 hy1 W)
  have HSZ := Lib.hid (fun W => small_q z0 z1 hz0 hz1 W)
  have HLX := Lib.hid (fun W => long_q x0 x1 x2 x3 hx0 hx1 hx2 hx3 W)
  have HLY := Lib.hid (fun W => long_q y0 y1 y2 y3 hy0 hy1 hy2 hy3 W)
  have HT := Lib.hid hT
  clear hx0 hx1 hx2 hx3 hy0 hy1 hy2 hy3 hz0 hz1 hT
  go_enter Tryz.func5, Tryz.ntmps5
  go_wp2_with fail
  have HW : Hid (Below W.heap.size W (((W.alloc (.cells #[.int .i64 x0, .int .i64 x1, .int .i64 x2, .int .i64 x3] 24)).alloc (.cells #[.int .i64 y0, .int .i64 y1, .int .i64 y2, .int .i64 y3] 24)).alloc (.cells #[.int .i64 z0, .int .i64 z1] 25))) := Lib.hid (belowVia (alloc_below _ _) (belowVia (alloc_below _ _) (alloc_below W _)))
  have hA0 : (W.alloc (.cells #[.int .i64 x0, .int .i64 x1, .int .i64 x2, .int .i64 x3] 24)).heap[W.heap.size]? = some (.cells #[.int .i64 x0, .int .i64 x1, .int .i64 x2, .int .i64 x3] 24 (0, 0)) := (heap_alloc_new W (.cells #[.int .i64 x0, .int .i64 x1, .int .i64 x2, .int .i64 x3] 24))
  have hA0 := heap_below (alloc_below (W.alloc (.cells #[.int .i64 x0, .int .i64 x1, .int .i64 x2, .int .i64 x3] 24)) (.cells #[.int .i64 y0, .int .i64 y1, .int .i64 y2, .int .i64 y3] 24)) hA0
  have hA0 := heap_below (alloc_below ((W.alloc (.cells #[.int .i64 x0, .int .i64 x1, .int .i64 x2, .int .i64 x3] 24)).alloc (.cells #[.int .i64 y0, .int .i64 y1, .int .i64 y2, .int .i64 y3] 24)) (.cells #[.int .i64 z0, .int .i64 z1] 25)) hA0
  have HX := Lib.hid hA0
  have hA1 : ((W.alloc (.cells #[.int .i64 x0, .int .i64 x1, .int .i64 x2, .int .i64 x3] 24)).alloc (.cells #[.int .i64 y0, .int .i64 y1, .int .i64 y2, .int .i64 y3] 24)).heap[(W.heap.size + 1)]? = some (.cells #[.int .i64 y0, .int .i64 y1, .int .i64 y2, .int .i64 y3] 24 (0, 0)) := (by have h := heap_alloc_new (W.alloc (.cells #[.int .i64 x0, .int .i64 x1, .int .i64 x2, .int .i64 x3] 24)) (.cells #[.int .i64 y0, .int .i64 y1, .int .i64 y2, .int .i64 y3] 24); rwa [show (W.alloc (.cells #[.int .i64 x0, .int .i64 x1, .int .i64 x2, .int .i64 x3] 24)).heap.size = (W.heap.size + 1) by simp] at h)
  have hA1 := heap_below (alloc_below ((W.alloc (.cells #[.int .i64 x0, .int .i64 x1, .int .i64 x2, .int .i64 x3] 24)).alloc (.cells #[.int .i64 y0, .int .i64 y1, .int .i64 y2, .int .i64 y3] 24)) (.cells #[.int .i64 z0, .int .i64 z1] 25)) hA1
  have HY := Lib.hid hA1
  have hA2 : (((W.alloc (.cells #[.int .i64 x0, .int .i64 x1, .int .i64 x2, .int .i64 x3] 24)).alloc (.cells #[.int .i64 y0, .int .i64 y1, .int .i64 y2, .int .i64 y3] 24)).alloc (.cells #[.int .i64 z0, .int .i64 z1] 25)).heap[(W.heap.size + 1 + 1)]? = some (.cells #[.int .i64 z0, .int .i64 z1] 25 (0, 0)) := (by have h := heap_alloc_new ((W.alloc (.cells #[.int .i64 x0, .int .i64 x1, .int .i64 x2, .int .i64 x3] 24)).alloc (.cells #[.int .i64 y0, .int .i64 y1, .int .i64 y2, .int .i64 y3] 24)) (.cells #[.int .i64 z0, .int .i64 z1] 25); rwa [show ((W.alloc (.cells #[.int .i64 x0, .int .i64 x1, .int .i64 x2, .int .i64 x3] 24)).alloc (.cells #[.int .i64 y0, .int .i64 y1, .int .i64 y2, .int .i64 y3] 24)).heap.size = (W.heap.size + 1 + 1) by simp] at h)
  have HZ := Lib.hid hA2
  clear hA0 hA1 hA2
  have HT := Lib.hid (HT.out.via HW.out)
  generalize (((W.alloc (.cells #[.int .i64 x0, .int .i64 x1, .int .i64 x2, .int .i64 x3] 24)).alloc (.cells #[.int .i64 y0, .int .i64 y1, .int .i64 y2, .int .i64 y3] 24)).alloc (.cells #[.int .i64 z0, .int .i64 z1] 25)) = w0 at *
  refine (sane_q w0 HT.out).mono ?_
  rintro e v1 ⟨rfl, hB⟩
  have HW := Lib.hid (belowVia hB HW.out)
  have HX := Lib.hid (heap_below hB HX.out)
  have HY := Lib.hid (heap_below hB HY.out)
  have HZ := Lib.hid (heap_below hB HZ.out)
  clear hB HT
  have gg0 := (cell_of_row _ _ 0 _ _ _ HX.out).trans (by rfl : _ = some (.int .i64 x0))
  have gg1 := (cell_of_row _ _ 1 _ _ _ HX.out).trans (by rfl : _ = some (.int .i64 x1))
  go_wp2_with fail
  clear gg0 gg1
  refine (HSX.out _).mono ?_
  rintro e k1 ⟨⟨qa, rfl, hqa⟩, hB⟩
  have HW := Lib.hid (belowVia hB HW.out)
  have HX := Lib.hid (heap_below hB HX.out)
  have HY := Lib.hid (heap_below hB HY.out)
  have HZ := Lib.hid (heap_below hB HZ.out)
  clear hB
  have Qa := Lib.hid hqa
  clear hqa HSX
  have LYA : Hid (W.heap.size + 1 ≠ k1.heap.size) := Lib.hid (Nat.ne_of_lt (Array.getElem?_eq_some_iff.1 HY.out).1)
  have Gpa : Hid (W.heap.size ≤ k1.heap.size) := Lib.hid HW.out.size
  have hB := alloc_below k1 (.cells #[.string (intB qa.num), .string (intB qa.den)] 23)
  have HW := Lib.hid (belowVia hB HW.out)
  have HX := Lib.hid (heap_below hB HX.out)
  have HY := Lib.hid (heap_below hB HY.out)
  have HZ := Lib.hid (heap_below hB HZ.out)
  have Ra := Lib.hid (heap_alloc_new k1 (.cells #[.string (intB qa.num), .string (intB qa.den)] 23))
  clear hB
  have gg0 := (cell_of_row _ _ 0 _ _ _ HY.out).trans (by rfl : _ = some (.int .i64 y0))
  have gg1 := (cell_of_row _ _ 1 _ _ _ HY.out).trans (by rfl : _ = some (.int .i64 y1))
  go_wp2_with fail
  clear gg0 gg1
  generalize (k1.alloc (.cells #[.string (intB qa.num), .string (intB qa.den)] 23)) = uk1 at *
  generalize k1.heap.size = pa at *
  refine (HSY.out _).mono ?_
  rintro e k2 ⟨⟨qb, rfl, hqb⟩, hB⟩
  have HW := Lib.hid (belowVia hB HW.out)
  have HX := Lib.hid (heap_below hB HX.out)
  have HY := Lib.hid (heap_below hB HY.out)
  have HZ := Lib.hid (heap_below hB HZ.out)
  have Ra := Lib.hid (heap_below hB Ra.out)
  clear hB
  have Qb := Lib.hid hqb
  clear hqb HSY
  have NAB : Hid (pa ≠ k2.heap.size) := Lib.hid (Nat.ne_of_lt (Array.getElem?_eq_some_iff.1 Ra.out).1)
  have Gpb : Hid (W.heap.size ≤ k2.heap.size) := Lib.hid HW.out.size
  have hB := alloc_below k2 (.cells #[.string (intB qb.num), .string (intB qb.den)] 23)
  have HW := Lib.hid (belowVia hB HW.out)
  have HX := Lib.hid (heap_below hB HX.out)
  have HY := Lib.hid (heap_below hB HY.out)
  have HZ := Lib.hid (heap_below hB HZ.out)
  have Ra := Lib.hid (heap_below hB Ra.out)
  have Rb := Lib.hid (heap_alloc_new k2 (.cells #[.string (intB qb.num), .string (intB qb.den)] 23))
  clear hB
  have gg0 := (cell_of_row _ _ 0 _ _ _ HZ.out).trans (by rfl : _ = some (.int .i64 z0))
  have gg1 := (cell_of_row _ _ 1 _ _ _ HZ.out).trans (by rfl : _ = some (.int .i64 z1))
  go_wp2_with fail
  clear gg0 gg1
  generalize (k2.alloc (.cells #[.string (intB qb.num), .string (intB qb.den)] 23)) = uk2 at *
  generalize k2.heap.size = pb at *
  refine (HSZ.out _).mono ?_
  rintro e k3 ⟨⟨qc, rfl, hqc⟩, hB⟩
  have HW := Lib.hid (belowVia hB HW.out)
  have HX := Lib.hid (heap_below hB HX.out)
  have HY := Lib.hid (heap_below hB HY.out)
  have HZ := Lib.hid (heap_below hB HZ.out)
  have Ra := Lib.hid (heap_below hB Ra.out)
  have Rb := Lib.hid (heap_below hB Rb.out)
  clear hB
  have Qc := Lib.hid hqc
  clear hqc HSZ
  have NCA : Hid (k3.heap.size ≠ pa) := Lib.hid (Nat.ne_of_gt (Array.getElem?_eq_some_iff.1 Ra.out).1)
  have NCB : Hid (k3.heap.size ≠ pb) := Lib.hid (Nat.ne_of_gt (Array.getElem?_eq_some_iff.1 Rb.out).1)
  have hB := alloc_below k3 (.cells #[.string (intB qc.num), .string (intB qc.den)] 23)
  have HW := Lib.hid (belowVia hB HW.out)
  have HX := Lib.hid (heap_below hB HX.out)
  have HY := Lib.hid (heap_below hB HY.out)
  have HZ := Lib.hid (heap_below hB HZ.out)
  have Ra := Lib.hid (heap_below hB Ra.out)
  have Rb := Lib.hid (heap_below hB Rb.out)
  have Bc := Lib.hid (BoxQ.new k3 (intB qc.num) (intB qc.den))
  clear hB
  clear HZ
  go_upto_if 52 with fail
  generalize (k3.alloc (.cells #[.string (intB qc.num), .string (intB qc.den)] 23)) = uk3 at *
  generalize k3.heap.size = pc at *
  go_cut [] (fun wx => ∃ a b : Rat, FitsQ a ∧ FitsQ b ∧ (lg = false → (∃ r, addQ (some a) (some b) = some r) ∧ (∃ r, mulQ (some a) (some b) = some r)) ∧ BoxQ pa (intB a.num) (intB a.den) wx ∧ BoxQ pb (intB b.num) (intB b.den) wx ∧ BoxQ pc (intB qc.num) (intB qc.den) wx ∧ Below W.heap.size W wx)
  case first =>
    as_aux_lemma =>
      cases lg with
      | false =>
        go_wp2_with fail
        go_meet
        case rel => exact ⟨qa, qb, Qa.out.fits (by decide) (by decide), Qb.out.fits (by decide) (by decide), fun _ => ⟨⟨_, add_little (Qa.out.mono (by decide) (by decide)) Qb.out⟩, ⟨_, mulQ_sz (j := 3) (k := 2) Qa.out Qb.out (by decide) (by decide)⟩⟩, boxRow Ra.out, boxRow Rb.out, Bc.out, HW.out⟩
      | true =>
        have gg0 := (cell_of_row _ _ 0 _ _ _ HX.out).trans (by rfl : _ = some (.int .i64 x0))
        have gg1 := (cell_of_row _ _ 1 _ _ _ HX.out).trans (by rfl : _ = some (.int .i64 x1))
        have gg2 := (cell_of_row _ _ 2 _ _ _ HX.out).trans (by rfl : _ = some (.int .i64 x2))
        have gg3 := (cell_of_row _ _ 3 _ _ _ HX.out).trans (by rfl : _ = some (.int .i64 x3))
        go_wp2_with fail
        clear gg0 gg1 gg2 gg3
        refine (HLX.out _).mono ?_
        rintro e k4 ⟨⟨ra, rfl, hra⟩, hB⟩
        have HW := Lib.hid (belowVia hB HW.out)
        have HX := Lib.hid (heap_below hB HX.out)
        have HY := Lib.hid (heap_below hB HY.out)
        have Ra := Lib.hid (heap_below hB Ra.out)
        have Rb := Lib.hid (heap_below hB Rb.out)
        have Bc := Lib.hid (Bc.out.via hB)
        clear hB
        have QA := Lib.hid hra
        clear hra HLX
        clear HX
        obtain ⟨m0, m1⟩ := cell2 Ra.out
        obtain ⟨m2, m3⟩ := cell2b Ra.out
        have Rb := Lib.hid ((heap_setCell_other _ ⟨pa, 1, none⟩ _ (.string (intB ra.den)) (by show _ ≠ pa; exact NAB.out.symm)).trans ((heap_setCell_other _ ⟨pa, 0, none⟩ _ (.string (intB ra.num)) (by show _ ≠ pa; exact NAB.out.symm)).trans Rb.out))
        have HY := Lib.hid ((heap_setCell_other _ ⟨pa, 1, none⟩ _ (.string (intB ra.den)) (by show _ ≠ pa; exact LYA.out)).trans ((heap_setCell_other _ ⟨pa, 0, none⟩ _ (.string (intB ra.num)) (by show _ ≠ pa; exact LYA.out)).trans HY.out))
        have Bc := Lib.hid (Bc.out.setO (a := .string (intB ra.num)) (b := .string (intB ra.den)) NCA.out)
        have HW := Lib.hid (below_set2 HW.out Gpa.out (.string (intB ra.num)) (.string (intB ra.den)))
        have Ra := Lib.hid (want_setO Ra.out (.string (intB ra.num)) (.string (intB ra.den)))
        have gg0 := (cell_of_row _ _ 0 _ _ _ HY.out).trans (by rfl : _ = some (.int .i64 y0))
        have gg1 := (cell_of_row _ _ 1 _ _ _ HY.out).trans (by rfl : _ = some (.int .i64 y1))
        have gg2 := (cell_of_row _ _ 2 _ _ _ HY.out).trans (by rfl : _ = some (.int .i64 y2))
        have gg3 := (cell_of_row _ _ 3 _ _ _ HY.out).trans (by rfl : _ = some (.int .i64 y3))
        go_wp2_with fail
        clear gg0 gg1 gg2 gg3
        clear m0 m1 m2 m3
        generalize ((k4.setCell ⟨pa, 0, none⟩ (.string (intB ra.num))).setCell ⟨pa, 1, none⟩ (.string (intB ra.den))) = s1 at *
        refine (HLY.out _).mono ?_
        rintro e k5 ⟨⟨rb, rfl, hrb⟩, hB⟩
        have HW := Lib.hid (belowVia hB HW.out)
        have HY := Lib.hid (heap_below hB HY.out)
        have Ra := Lib.hid (heap_below hB Ra.out)
        have Rb := Lib.hid (heap_below hB Rb.out)
        have Bc := Lib.hid (Bc.out.via hB)
        clear hB
        have QB := Lib.hid hrb
        clear hrb HLY HY
        obtain ⟨m0, m1⟩ := cell2 Rb.out
        obtain ⟨m2, m3⟩ := cell2b Rb.out
        have Ra := Lib.hid ((heap_setCell_other _ ⟨pb, 1, none⟩ _ (.string (intB rb.den)) (by show _ ≠ pb; exact NAB.out)).trans ((heap_setCell_other _ ⟨pb, 0, none⟩ _ (.string (intB rb.num)) (by show _ ≠ pb; exact NAB.out)).trans Ra.out))
        have Bc := Lib.hid (Bc.out.setO (a := .string (intB rb.num)) (b := .string (intB rb.den)) NCB.out)
        have HW := Lib.hid (below_set2 HW.out Gpb.out (.string (intB rb.num)) (.string (intB rb.den)))
        have Rb := Lib.hid (want_setO Rb.out (.string (intB rb.num)) (.string (intB rb.den)))
        go_wp2_with fail
        go_meet
        case rel => exact ⟨ra, rb, QA.out.fits (by decide) (by decide), QB.out.fits (by decide) (by decide), fun h => absurd h (by decide), boxRow Ra.out, boxRow Rb.out, Bc.out, HW.out⟩
  case rest =>
    obtain ⟨a, b, ha, hb, hl, hba, hbb, hbc, hw⟩ := hcut
    obtain ⟨n0, d0, n1, d1, n2, d2, n3, d3, m1, l1, m3, l3, p0, q0, p1, q1, p2, q2, p3, q3, t0, u0, t1, u1, t2, u2, t3, u3, o1, o2, v1, v2, x1, x2, y1, y2, z1, z2, w1, w2, r1, r2, s1, s2, e0, e1, e2, e3, f1, f3, g0, g1, g2, g3, h0, h1, h2, h3, ei, ej, ek, el, em, en, eo, ep, HF0⟩ := field_facts ha hb (Qc.out.fits (by decide) (by decide)) hl
    have HF := Lib.hid HF0
    have Ba := Lib.hid hba
    have Bb := Lib.hid hbb
    have Bc := Lib.hid hbc
    have HW := Lib.hid hw
    clear hba hbb hbc hw ha hb hl HF0 HLX HLY Qa Qb Qc HX HY
    generalize intB a.num = na at *
    generalize intB a.den = da at *
    generalize intB b.num = nb at *
    generalize intB b.den = db at *
    generalize intB qc.num = nc at *
    generalize intB qc.den = dc at *
    have gg0 := Ba.out.a
    have gg1 := Ba.out.b
    have gg2 := Bb.out.a
    have gg3 := Bb.out.b
    go_wp2_with fail
    clear gg0 gg1 gg2 gg3
    refine (HF.out.ab _).mono ?_
    rintro e k6 ⟨rfl, hB⟩
    have HW := Lib.hid (belowVia hB HW.out)
    have Ba := Lib.hid (Ba.out.via hB)
    have Bb := Lib.hid (Bb.out.via hB)
    have Bc := Lib.hid (Bc.out.via hB)
    clear hB
    have hb1 := alloc_below k6 (.cells #[.string n0, .string d0, .string n1, .string d1, .string n2, .string d2, .string n3, .string d3] 31)
    have hb2 := alloc_below (k6.alloc (.cells #[.string n0, .string d0, .string n1, .string d1, .string n2, .string d2, .string n3, .string d3] 31)) (.cells #[.int .i64 e0, .int .i64 e1, .int .i64 e2, .int .i64 e3] 33)
    have hr1 := heap_below hb2 (heap_alloc_new k6 (.cells #[.string n0, .string d0, .string n1, .string d1, .string n2, .string d2, .string n3, .string d3] 31))
    have hr2 := heap_alloc_new (k6.alloc (.cells #[.string n0, .string d0, .string n1, .string d1, .string n2, .string d2, .string n3, .string d3] 31)) (.cells #[.int .i64 e0, .int .i64 e1, .int .i64 e2, .int .i64 e3] 33)
    simp only [alloc_size] at hr2
    have hB := belowVia hb2 hb1
    have HW := Lib.hid (belowVia hB HW.out)
    have Ba := Lib.hid (Ba.out.via hB)
    have Bb := Lib.hid (Bb.out.via hB)
    have Bc := Lib.hid (Bc.out.via hB)
    have R1 := Lib.hid hr1
    have E1 := Lib.hid hr2
    clear hB hb1 hb2 hr1 hr2
    have gg0 := Ba.out.a
    have gg1 := Ba.out.b
    have gg2 := Bb.out.a
    have gg3 := Bb.out.b
    go_wp2_with fail
    clear gg0 gg1 gg2 gg3
    generalize (k6.alloc (.cells #[.string n0, .string d0, .string n1, .string d1, .string n2, .string d2, .string n3, .string d3] 31)).alloc (.cells #[.int .i64 e0, .int .i64 e1, .int .i64 e2, .int .i64 e3] 33) = uk6 at *
    generalize k6.heap.size = at1 at *
    refine (HF.out.ba _).mono ?_
    rintro e k7 ⟨rfl, hB⟩
    have HW := Lib.hid (belowVia hB HW.out)
    have R1 := Lib.hid (heap_below hB R1.out)
    have E1 := Lib.hid (heap_below hB E1.out)
    have Ba := Lib.hid (Ba.out.via hB)
    have Bb := Lib.hid (Bb.out.via hB)
    have Bc := Lib.hid (Bc.out.via hB)
    clear hB
    have hb1 := alloc_below k7 (.cells #[.string n0, .string d0, .string m1, .string l1, .string n2, .string d2, .string m3, .string l3] 31)
    have hb2 := alloc_below (k7.alloc (.cells #[.string n0, .string d0, .string m1, .string l1, .string n2, .string d2, .string m3, .string l3] 31)) (.cells #[.int .i64 e0, .int .i64 f1, .int .i64 e2, .int .i64 f3] 33)
    have hr1 := heap_below hb2 (heap_alloc_new k7 (.cells #[.string n0, .string d0, .string m1, .string l1, .string n2, .string d2, .string m3, .string l3] 31))
    have hr2 := heap_alloc_new (k7.alloc (.cells #[.string n0, .string d0, .string m1, .string l1, .string n2, .string d2, .string m3, .string l3] 31)) (.cells #[.int .i64 e0, .int .i64 f1, .int .i64 e2, .int .i64 f3] 33)
    simp only [alloc_size] at hr2
    have hB := belowVia hb2 hb1
    have HW := Lib.hid (belowVia hB HW.out)
    have R1 := Lib.hid (heap_below hB R1.out)
    have E1 := Lib.hid (heap_below hB E1.out)
    have Ba := Lib.hid (Ba.out.via hB)
    have Bb := Lib.hid (Bb.out.via hB)
    have Bc := Lib.hid (Bc.out.via hB)
    have R2 := Lib.hid hr1
    have E2 := Lib.hid hr2
    clear hB hb1 hb2 hr1 hr2
    go_upto_region 10 with fail
    generalize (k7.alloc (.cells #[.string n0, .string d0, .string m1, .string l1, .string n2, .string d2, .string m3, .string l3] 31)).alloc (.cells #[.int .i64 e0, .int .i64 f1, .int .i64 e2, .int .i64 f3] 33) = uk7 at *
    generalize k7.heap.size = at2 at *
    go_cut [108] (fun sx wx => sx = .bool false ∧ wx = uk7)
    case first =>
      as_aux_lemma =>
        have gg0 := (cell_of_row _ _ 0 _ _ _ R1.out).trans (by rfl : _ = some (.string n0))
        have gg1 := (cell_of_row _ _ 1 _ _ _ R1.out).trans (by rfl : _ = some (.string d0))
        have gg2 := (cell_of_row _ _ 4 _ _ _ R1.out).trans (by rfl : _ = some (.string n2))
        have gg3 := (cell_of_row _ _ 5 _ _ _ R1.out).trans (by rfl : _ = some (.string d2))
        have gg4 := (cell_of_row _ _ 0 _ _ _ R2.out).trans (by rfl : _ = some (.string n0))
        have gg5 := (cell_of_row _ _ 1 _ _ _ R2.out).trans (by rfl : _ = some (.string d0))
        have gg6 := (cell_of_row _ _ 4 _ _ _ R2.out).trans (by rfl : _ = some (.string n2))
        have gg7 := (cell_of_row _ _ 5 _ _ _ R2.out).trans (by rfl : _ = some (.string d2))
        have gg8 := (cell_of_row _ _ 0 _ _ _ E1.out).trans (by rfl : _ = some (.int .i64 e0))
        have gg9 := (cell_of_row _ _ 2 _ _ _ E1.out).trans (by rfl : _ = some (.int .i64 e2))
        have gg10 := (cell_of_row _ _ 0 _ _ _ E2.out).trans (by rfl : _ = some (.int .i64 e0))
        have gg11 := (cell_of_row _ _ 2 _ _ _ E2.out).trans (by rfl : _ = some (.int .i64 e2))
        have ht0 : (e0 != e0) = false := by simp
        have ht2 : (e2 != e2) = false := by simp
        cases lg with
        | true =>
          go_wp2_with fail
          go_meet
          case rel => exact ⟨(by first | rfl | simp), rfl⟩
        | false =>
          obtain ⟨k0, k2⟩ := HF.out.ok rfl
          have g0 : (e0 != 0) = false := by simp [k0]
          have g2 : (e2 != 0) = false := by simp [k2]
          clear k0 k2
          go_wp2_with fail
          go_meet
          case rel => exact ⟨(by first | rfl | simp), rfl⟩
    case rest =>
      obtain ⟨rfl, rfl⟩ := hcut
      clear R2 E2
      have gg0 := Bb.out.a
      have gg1 := Bb.out.b
      have gg2 := Bc.out.a
      have gg3 := Bc.out.b
      go_wp2_with fail
      clear gg0 gg1 gg2 gg3
      refine (HF.out.bc _).mono ?_
      rintro e k8 ⟨rfl, hB⟩
      have HW := Lib.hid (belowVia hB HW.out)
      have R1 := Lib.hid (heap_below hB R1.out)
      have E1 := Lib.hid (heap_below hB E1.out)
      have Ba := Lib.hid (Ba.out.via hB)
      have Bb := Lib.hid (Bb.out.via hB)
      have Bc := Lib.hid (Bc.out.via hB)
      clear hB
      have hb1 := alloc_below k8 (.cells #[.string p0, .string q0, .string p1, .string q1, .string p2, .string q2, .string p3, .string q3] 31)
      have hb2 := alloc_below (k8.alloc (.cells #[.string p0, .string q0, .string p1, .string q1, .string p2, .string q2, .string p3, .string q3] 31)) (.cells #[.int .i64 g0, .int .i64 g1, .int .i64 g2, .int .i64 g3] 33)
      have hr1 := heap_below hb2 (heap_alloc_new k8 (.cells #[.string p0, .string q0, .string p1, .string q1, .string p2, .string q2, .string p3, .string q3] 31))
      have hr2 := heap_alloc_new (k8.alloc (.cells #[.string p0, .string q0, .string p1, .string q1, .string p2, .string q2, .string p3, .string q3] 31)) (.cells #[.int .i64 g0, .int .i64 g1, .int .i64 g2, .int .i64 g3] 33)
      simp only [alloc_size] at hr2
      have hB := belowVia hb2 hb1
      have HW := Lib.hid (belowVia hB HW.out)
      have R1 := Lib.hid (heap_below hB R1.out)
      have E1 := Lib.hid (heap_below hB E1.out)
      have Ba := Lib.hid (Ba.out.via hB)
      have Bb := Lib.hid (Bb.out.via hB)
      have Bc := Lib.hid (Bc.out.via hB)
      have R3 := Lib.hid hr1
      have E3 := Lib.hid hr2
      clear hB hb1 hb2 hr1 hr2
      have gg0 := Bc.out.a
      have gg1 := Bc.out.b
      have gg2 := (cell_of_row _ _ 0 _ _ _ R1.out).trans (by rfl : _ = some (.string n0))
      have gg3 := (cell_of_row _ _ 1 _ _ _ R1.out).trans (by rfl : _ = some (.string d0))
      go_wp2_with fail
      clear gg0 gg1 gg2 gg3
      generalize (k8.alloc (.cells #[.string p0, .string q0, .string p1, .string q1, .string p2, .string q2, .string p3, .string q3] 31)).alloc (.cells #[.int .i64 g0, .int .i64 g1, .int .i64 g2, .int .i64 g3] 33) = uk8 at *
      generalize k8.heap.size = at3 at *
      refine (HF.out.abc _).mono ?_
      rintro e k9 ⟨rfl, hB⟩
      have HW := Lib.hid (belowVia hB HW.out)
      have R1 := Lib.hid (heap_below hB R1.out)
      have E1 := Lib.hid (heap_below hB E1.out)
      have R3 := Lib.hid (heap_below hB R3.out)
      have E3 := Lib.hid (heap_below hB E3.out)
      have Ba := Lib.hid (Ba.out.via hB)
      have Bb := Lib.hid (Bb.out.via hB)
      have Bc := Lib.hid (Bc.out.via hB)
      clear hB
      have hb1 := alloc_below k9 (.cells #[.string t0, .string u0, .string t1, .string u1, .string t2, .string u2, .string t3, .string u3] 31)
      have hb2 := alloc_below (k9.alloc (.cells #[.string t0, .string u0, .string t1, .string u1, .string t2, .string u2, .string t3, .string u3] 31)) (.cells #[.int .i64 h0, .int .i64 h1, .int .i64 h2, .int .i64 h3] 33)
      have hr1 := heap_below hb2 (heap_alloc_new k9 (.cells #[.string t0, .string u0, .string t1, .string u1, .string t2, .string u2, .string t3, .string u3] 31))
      have hr2 := heap_alloc_new (k9.alloc (.cells #[.string t0, .string u0, .string t1, .string u1, .string t2, .string u2, .string t3, .string u3] 31)) (.cells #[.int .i64 h0, .int .i64 h1, .int .i64 h2, .int .i64 h3] 33)
      simp only [alloc_size] at hr2
      have hB := belowVia hb2 hb1
      have HW := Lib.hid (belowVia hB HW.out)
      have R1 := Lib.hid (heap_below hB R1.out)
      have E1 := Lib.hid (heap_below hB E1.out)
      have R3 := Lib.hid (heap_below hB R3.out)
      have E3 := Lib.hid (heap_below hB E3.out)
      have Ba := Lib.hid (Ba.out.via hB)
      have Bb := Lib.hid (Bb.out.via hB)
      have Bc := Lib.hid (Bc.out.via hB)
      have R4 := Lib.hid hr1
      have E4 := Lib.hid hr2
      clear hB hb1 hb2 hr1 hr2
      have gg0 := Ba.out.a
      have gg1 := Ba.out.b
      have gg2 := (cell_of_row _ _ 0 _ _ _ R3.out).trans (by rfl : _ = some (.string p0))
      have gg3 := (cell_of_row _ _ 1 _ _ _ R3.out).trans (by rfl : _ = some (.string q0))
      go_wp2_with fail
      clear gg0 gg1 gg2 gg3
      generalize (k9.alloc (.cells #[.string t0, .string u0, .string t1, .string u1, .string t2, .string u2, .string t3, .string u3] 31)).alloc (.cells #[.int .i64 h0, .int .i64 h1, .int .i64 h2, .int .i64 h3] 33) = uk9 at *
      generalize k9.heap.size = at4 at *
      refine (HF.out.one _).mono ?_
      rintro e k10 ⟨rfl, hB⟩
      have HW := Lib.hid (belowVia hB HW.out)
      have R1 := Lib.hid (heap_below hB R1.out)
      have E1 := Lib.hid (heap_below hB E1.out)
      have R3 := Lib.hid (heap_below hB R3.out)
      have E3 := Lib.hid (heap_below hB E3.out)
      have R4 := Lib.hid (heap_below hB R4.out)
      have E4 := Lib.hid (heap_below hB E4.out)
      have Ba := Lib.hid (Ba.out.via hB)
      have Bb := Lib.hid (Bb.out.via hB)
      have Bc := Lib.hid (Bc.out.via hB)
      clear hB
      have hB := alloc_below k10 (.cells #[.string o1, .string o2] 23)
      have HW := Lib.hid (belowVia hB HW.out)
      have R1 := Lib.hid (heap_below hB R1.out)
      have E1 := Lib.hid (heap_below hB E1.out)
      have R3 := Lib.hid (heap_below hB R3.out)
      have E3 := Lib.hid (heap_below hB E3.out)
      have R4 := Lib.hid (heap_below hB R4.out)
      have E4 := Lib.hid (heap_below hB E4.out)
      have Ba := Lib.hid (Ba.out.via hB)
      have Bb := Lib.hid (Bb.out.via hB)
      have Bc := Lib.hid (Bc.out.via hB)
      have Bo := Lib.hid (BoxQ.new k10 o1 o2)
      clear hB
      go_upto_region 15 with fail
      generalize (k10.alloc (.cells #[.string o1, .string o2] 23)) = uk10 at *
      generalize k10.heap.size = po at *
      go_cut [151] (fun sx wx => sx = .bool false ∧ wx = uk10)
      case first =>
        as_aux_lemma =>
          have gg0 := Bo.out.a
          have gg1 := Bo.out.b
          have gg2 := (cell_of_row _ _ 0 _ _ _ E1.out).trans (by rfl : _ = some (.int .i64 e0))
          have gg3 := (cell_of_row _ _ 0 _ _ _ E3.out).trans (by rfl : _ = some (.int .i64 g0))
          have gg4 := (cell_of_row _ _ 0 _ _ _ E4.out).trans (by rfl : _ = some (.int .i64 h0))
          have gg5 := (cell_of_row _ _ 0 _ _ _ R4.out).trans (by rfl : _ = some (.string t0))
          have gg6 := (cell_of_row _ _ 1 _ _ _ R4.out).trans (by rfl : _ = some (.string u0))
          by_cases ce0 : e0 = 0
          · have be0 : (e0 == 0) = true := by simp [ce0]
            have ge0 : (e0 != 0) = false := by simp [ce0]
            have Ce0 := Lib.hid ce0
            clear ce0
            by_cases cg0 : g0 = 0
            · have bg0 : (g0 == 0) = true := by simp [cg0]
              have gg0 : (g0 != 0) = false := by simp [cg0]
              have Cg0 := Lib.hid cg0
              clear cg0
              by_cases ch0 : h0 = 0
              · have bh0 : (h0 == 0) = true := by simp [ch0]
                have gh0 : (h0 != 0) = false := by simp [ch0]
                have Ch0 := Lib.hid ch0
                clear ch0
                by_cases cei : ei = 0
                · have bei : (ei == 0) = true := by simp [cei]
                  have gei : (ei != 0) = false := by simp [cei]
                  have Cei := Lib.hid cei
                  clear cei
                  obtain ⟨rfl, rfl⟩ := HF.out.as1 Ce0.out Cg0.out Ch0.out Cei.out
                  go_wp2_with fail
                  go_meet
                  case rel => exact ⟨(by first | rfl | simp), rfl⟩
                · have bei : (ei == 0) = false := by simp [cei]
                  have gei : (ei != 0) = true := by simp [cei]
                  clear cei
                  go_wp2_with fail
                  go_meet
                  case rel => exact ⟨(by first | rfl | simp), rfl⟩
              · have bh0 : (h0 == 0) = false := by simp [ch0]
                have gh0 : (h0 != 0) = true := by simp [ch0]
                clear ch0
                go_wp2_with fail
                go_meet
                case rel => exact ⟨(by first | rfl | simp), rfl⟩
            · have bg0 : (g0 == 0) = false := by simp [cg0]
              have gg0 : (g0 != 0) = true := by simp [cg0]
              clear cg0
              go_wp2_with fail
              go_meet
              case rel => exact ⟨(by first | rfl | simp), rfl⟩
          · have be0 : (e0 == 0) = false := by simp [ce0]
            have ge0 : (e0 != 0) = true := by simp [ce0]
            clear ce0
            go_wp2_with fail
            go_meet
            case rel => exact ⟨(by first | rfl | simp), rfl⟩
      case rest =>
        obtain ⟨rfl, rfl⟩ := hcut
        clear Bo R4 E4
        have gg0 := Ba.out.a
        have gg1 := Ba.out.b
        have gg2 := (cell_of_row _ _ 4 _ _ _ R3.out).trans (by rfl : _ = some (.string p2))
        have gg3 := (cell_of_row _ _ 5 _ _ _ R3.out).trans (by rfl : _ = some (.string q2))
        go_wp2_with fail
        clear gg0 gg1 gg2 gg3
        refine (HF.out.two _).mono ?_
        rintro e k11 ⟨rfl, hB⟩
        have HW := Lib.hid (belowVia hB HW.out)
        have R1 := Lib.hid (heap_below hB R1.out)
        have E1 := Lib.hid (heap_below hB E1.out)
        have R3 := Lib.hid (heap_below hB R3.out)
        have E3 := Lib.hid (heap_below hB E3.out)
        have Ba := Lib.hid (Ba.out.via hB)
        have Bb := Lib.hid (Bb.out.via hB)
        have Bc := Lib.hid (Bc.out.via hB)
        clear hB
        have hB := alloc_below k11 (.cells #[.string v1, .string v2] 23)
        have HW := Lib.hid (belowVia hB HW.out)
        have R1 := Lib.hid (heap_below hB R1.out)
        have E1 := Lib.hid (heap_below hB E1.out)
        have R3 := Lib.hid (heap_below hB R3.out)
        have E3 := Lib.hid (heap_below hB E3.out)
        have Ba := Lib.hid (Ba.out.via hB)
        have Bb := Lib.hid (Bb.out.via hB)
        have Bc := Lib.hid (Bc.out.via hB)
        have Bv := Lib.hid (BoxQ.new k11 v1 v2)
        clear hB
        have gg0 := Bc.out.a
        have gg1 := Bc.out.b
        have gg2 := (cell_of_row _ _ 4 _ _ _ R1.out).trans (by rfl : _ = some (.string n2))
        have gg3 := (cell_of_row _ _ 5 _ _ _ R1.out).trans (by rfl : _ = some (.string d2))
        go_wp2_with fail
        clear gg0 gg1 gg2 gg3
        generalize (k11.alloc (.cells #[.string v1, .string v2] 23)) = uk11 at *
        generalize k11.heap.size = pv at *
        refine (HF.out.left _).mono ?_
        rintro e k12 ⟨rfl, hB⟩
        have HW := Lib.hid (belowVia hB HW.out)
        have R1 := Lib.hid (heap_below hB R1.out)
        have E1 := Lib.hid (heap_below hB E1.out)
        have R3 := Lib.hid (heap_below hB R3.out)
        have E3 := Lib.hid (heap_below hB E3.out)
        have Ba := Lib.hid (Ba.out.via hB)
        have Bb := Lib.hid (Bb.out.via hB)
        have Bc := Lib.hid (Bc.out.via hB)
        have Bv := Lib.hid (Bv.out.via hB)
        clear hB
        have hB := alloc_below k12 (.cells #[.string x1, .string x2] 23)
        have HW := Lib.hid (belowVia hB HW.out)
        have R1 := Lib.hid (heap_below hB R1.out)
        have E1 := Lib.hid (heap_below hB E1.out)
        have R3 := Lib.hid (heap_below hB R3.out)
        have E3 := Lib.hid (heap_below hB E3.out)
        have Ba := Lib.hid (Ba.out.via hB)
        have Bb := Lib.hid (Bb.out.via hB)
        have Bc := Lib.hid (Bc.out.via hB)
        have Bv := Lib.hid (Bv.out.via hB)
        have Bx := Lib.hid (BoxQ.new k12 x1 x2)
        clear hB
        go_upto_region 19 with fail
        generalize (k12.alloc (.cells #[.string x1, .string x2] 23)) = uk12 at *
        generalize k12.heap.size = px at *
        go_cut [186] (fun sx wx => sx = .bool false ∧ wx = uk12)
        case first =>
          as_aux_lemma =>
            have gg0 := Bv.out.a
            have gg1 := Bv.out.b
            have gg2 := Bx.out.a
            have gg3 := Bx.out.b
            have gg4 := (cell_of_row _ _ 2 _ _ _ E1.out).trans (by rfl : _ = some (.int .i64 e2))
            have gg5 := (cell_of_row _ _ 2 _ _ _ E3.out).trans (by rfl : _ = some (.int .i64 g2))
            by_cases ce2 : e2 = 0
            · have be2 : (e2 == 0) = true := by simp [ce2]
              have ge2 : (e2 != 0) = false := by simp [ce2]
              have Ce2 := Lib.hid ce2
              clear ce2
              by_cases cg2 : g2 = 0
              · have bg2 : (g2 == 0) = true := by simp [cg2]
                have gg2 : (g2 != 0) = false := by simp [cg2]
                have Cg2 := Lib.hid cg2
                clear cg2
                by_cases cej : ej = 0
                · have bej : (ej == 0) = true := by simp [cej]
                  have gej : (ej != 0) = false := by simp [cej]
                  have Cej := Lib.hid cej
                  clear cej
                  by_cases cek : ek = 0
                  · have bek : (ek == 0) = true := by simp [cek]
                    have gek : (ek != 0) = false := by simp [cek]
                    have Cek := Lib.hid cek
                    clear cek
                    obtain ⟨rfl, rfl⟩ := HF.out.as2 Ce2.out Cg2.out Cej.out Cek.out
                    go_wp2_with fail
                    go_meet
                    case rel => exact ⟨(by first | rfl | simp), rfl⟩
                  · have bek : (ek == 0) = false := by simp [cek]
                    have gek : (ek != 0) = true := by simp [cek]
                    clear cek
                    go_wp2_with fail
                    go_meet
                    case rel => exact ⟨(by first | rfl | simp), rfl⟩
                · have bej : (ej == 0) = false := by simp [cej]
                  have gej : (ej != 0) = true := by simp [cej]
                  clear cej
                  go_wp2_with fail
                  go_meet
                  case rel => exact ⟨(by first | rfl | simp), rfl⟩
              · have bg2 : (g2 == 0) = false := by simp [cg2]
                have gg2 : (g2 != 0) = true := by simp [cg2]
                clear cg2
                go_wp2_with fail
                go_meet
                case rel => exact ⟨(by first | rfl | simp), rfl⟩
            · have be2 : (e2 == 0) = false := by simp [ce2]
              have ge2 : (e2 != 0) = true := by simp [ce2]
              clear ce2
              go_wp2_with fail
              go_meet
              case rel => exact ⟨(by first | rfl | simp), rfl⟩
        case rest =>
          obtain ⟨rfl, rfl⟩ := hcut
          clear Bv Bx
          have gg0 := Ba.out.a
          have gg1 := Ba.out.b
          have gg2 := Bc.out.a
          have gg3 := Bc.out.b
          go_wp2_with fail
          clear gg0 gg1 gg2 gg3
          refine (HF.out.ac _).mono ?_
          rintro e k13 ⟨rfl, hB⟩
          have HW := Lib.hid (belowVia hB HW.out)
          have R1 := Lib.hid (heap_below hB R1.out)
          have E1 := Lib.hid (heap_below hB E1.out)
          have R3 := Lib.hid (heap_below hB R3.out)
          have E3 := Lib.hid (heap_below hB E3.out)
          have Ba := Lib.hid (Ba.out.via hB)
          have Bb := Lib.hid (Bb.out.via hB)
          have Bc := Lib.hid (Bc.out.via hB)
          clear hB
          have hB := alloc_below k13 (.cells #[.string y1, .string y2] 23)
          have HW := Lib.hid (belowVia hB HW.out)
          have R1 := Lib.hid (heap_below hB R1.out)
          have E1 := Lib.hid (heap_below hB E1.out)
          have R3 := Lib.hid (heap_below hB R3.out)
          have E3 := Lib.hid (heap_below hB E3.out)
          have Ba := Lib.hid (Ba.out.via hB)
          have Bb := Lib.hid (Bb.out.via hB)
          have Bc := Lib.hid (Bc.out.via hB)
          have By := Lib.hid (BoxQ.new k13 y1 y2)
          clear hB
          have gg0 := By.out.a
          have gg1 := By.out.b
          have gg2 := (cell_of_row _ _ 4 _ _ _ R3.out).trans (by rfl : _ = some (.string p2))
          have gg3 := (cell_of_row _ _ 5 _ _ _ R3.out).trans (by rfl : _ = some (.string q2))
          go_wp2_with fail
          clear gg0 gg1 gg2 gg3
          generalize (k13.alloc (.cells #[.string y1, .string y2] 23)) = uk13 at *
          generalize k13.heap.size = py at *
          refine (HF.out.sum _).mono ?_
          rintro e k14 ⟨rfl, hB⟩
          have HW := Lib.hid (belowVia hB HW.out)
          have R1 := Lib.hid (heap_below hB R1.out)
          have E1 := Lib.hid (heap_below hB E1.out)
          have R3 := Lib.hid (heap_below hB R3.out)
          have E3 := Lib.hid (heap_below hB E3.out)
          have Ba := Lib.hid (Ba.out.via hB)
          have Bb := Lib.hid (Bb.out.via hB)
          have Bc := Lib.hid (Bc.out.via hB)
          have By := Lib.hid (By.out.via hB)
          clear hB
          have hB := alloc_below k14 (.cells #[.string z1, .string z2] 23)
          have HW := Lib.hid (belowVia hB HW.out)
          have R1 := Lib.hid (heap_below hB R1.out)
          have E1 := Lib.hid (heap_below hB E1.out)
          have R3 := Lib.hid (heap_below hB R3.out)
          have E3 := Lib.hid (heap_below hB E3.out)
          have Ba := Lib.hid (Ba.out.via hB)
          have Bb := Lib.hid (Bb.out.via hB)
          have Bc := Lib.hid (Bc.out.via hB)
          have By := Lib.hid (By.out.via hB)
          have Bz := Lib.hid (BoxQ.new k14 z1 z2)
          clear hB
          have gg0 := Bc.out.a
          have gg1 := Bc.out.b
          have gg2 := (cell_of_row _ _ 0 _ _ _ R1.out).trans (by rfl : _ = some (.string n0))
          have gg3 := (cell_of_row _ _ 1 _ _ _ R1.out).trans (by rfl : _ = some (.string d0))
          go_wp2_with fail
          clear gg0 gg1 gg2 gg3
          generalize (k14.alloc (.cells #[.string z1, .string z2] 23)) = uk14 at *
          generalize k14.heap.size = pz at *
          refine (HF.out.whole _).mono ?_
          rintro e k15 ⟨rfl, hB⟩
          have HW := Lib.hid (belowVia hB HW.out)
          have R1 := Lib.hid (heap_below hB R1.out)
          have E1 := Lib.hid (heap_below hB E1.out)
          have R3 := Lib.hid (heap_below hB R3.out)
          have E3 := Lib.hid (heap_below hB E3.out)
          have Ba := Lib.hid (Ba.out.via hB)
          have Bb := Lib.hid (Bb.out.via hB)
          have Bc := Lib.hid (Bc.out.via hB)
          have By := Lib.hid (By.out.via hB)
          have Bz := Lib.hid (Bz.out.via hB)
          clear hB
          have hB := alloc_below k15 (.cells #[.string w1, .string w2] 23)
          have HW := Lib.hid (belowVia hB HW.out)
          have R1 := Lib.hid (heap_below hB R1.out)
          have E1 := Lib.hid (heap_below hB E1.out)
          have R3 := Lib.hid (heap_below hB R3.out)
          have E3 := Lib.hid (heap_below hB E3.out)
          have Ba := Lib.hid (Ba.out.via hB)
          have Bb := Lib.hid (Bb.out.via hB)
          have Bc := Lib.hid (Bc.out.via hB)
          have By := Lib.hid (By.out.via hB)
          have Bz := Lib.hid (Bz.out.via hB)
          have Bw := Lib.hid (BoxQ.new k15 w1 w2)
          clear hB
          go_upto_region 24 with fail
          generalize (k15.alloc (.cells #[.string w1, .string w2] 23)) = uk15 at *
          generalize k15.heap.size = pw at *
          go_cut [231] (fun sx wx => sx = .bool false ∧ wx = uk15)
          case first =>
            as_aux_lemma =>
              have gg0 := Bz.out.a
              have gg1 := Bz.out.b
              have gg2 := Bw.out.a
              have gg3 := Bw.out.b
              have gg4 := (cell_of_row _ _ 0 _ _ _ E1.out).trans (by rfl : _ = some (.int .i64 e0))
              have gg5 := (cell_of_row _ _ 2 _ _ _ E3.out).trans (by rfl : _ = some (.int .i64 g2))
              by_cases ce0 : e0 = 0
              · have be0 : (e0 == 0) = true := by simp [ce0]
                have ge0 : (e0 != 0) = false := by simp [ce0]
                have Ce0 := Lib.hid ce0
                clear ce0
                by_cases cel : el = 0
                · have bel : (el == 0) = true := by simp [cel]
                  have gel : (el != 0) = false := by simp [cel]
                  have Cel := Lib.hid cel
                  clear cel
                  by_cases cg2 : g2 = 0
                  · have bg2 : (g2 == 0) = true := by simp [cg2]
                    have gg2 : (g2 != 0) = false := by simp [cg2]
                    have Cg2 := Lib.hid cg2
                    clear cg2
                    by_cases cem : em = 0
                    · have bem : (em == 0) = true := by simp [cem]
                      have gem : (em != 0) = false := by simp [cem]
                      have Cem := Lib.hid cem
                      clear cem
                      by_cases cen : en = 0
                      · have ben : (en == 0) = true := by simp [cen]
                        have gen : (en != 0) = false := by simp [cen]
                        have Cen := Lib.hid cen
                        clear cen
                        obtain ⟨rfl, rfl⟩ := HF.out.ds Ce0.out Cel.out Cg2.out Cem.out Cen.out
                        go_wp2_with fail
                        go_meet
                        case rel => exact ⟨(by first | rfl | simp), rfl⟩
                      · have ben : (en == 0) = false := by simp [cen]
                        have gen : (en != 0) = true := by simp [cen]
                        clear cen
                        go_wp2_with fail
                        go_meet
                        case rel => exact ⟨(by first | rfl | simp), rfl⟩
                    · have bem : (em == 0) = false := by simp [cem]
                      have gem : (em != 0) = true := by simp [cem]
                      clear cem
                      go_wp2_with fail
                      go_meet
                      case rel => exact ⟨(by first | rfl | simp), rfl⟩
                  · have bg2 : (g2 == 0) = false := by simp [cg2]
                    have gg2 : (g2 != 0) = true := by simp [cg2]
                    clear cg2
                    go_wp2_with fail
                    go_meet
                    case rel => exact ⟨(by first | rfl | simp), rfl⟩
                · have bel : (el == 0) = false := by simp [cel]
                  have gel : (el != 0) = true := by simp [cel]
                  clear cel
                  go_wp2_with fail
                  go_meet
                  case rel => exact ⟨(by first | rfl | simp), rfl⟩
              · have be0 : (e0 == 0) = false := by simp [ce0]
                have ge0 : (e0 != 0) = true := by simp [ce0]
                clear ce0
                go_wp2_with fail
                go_meet
                case rel => exact ⟨(by first | rfl | simp), rfl⟩
          case rest =>
            obtain ⟨rfl, rfl⟩ := hcut
            clear By Bz Bw R3 E3 Bc
            have gg0 := Bb.out.a
            have gg1 := Bb.out.b
            have gg2 := (cell_of_row _ _ 0 _ _ _ R1.out).trans (by rfl : _ = some (.string n0))
            have gg3 := (cell_of_row _ _ 1 _ _ _ R1.out).trans (by rfl : _ = some (.string d0))
            go_wp2_with fail
            clear gg0 gg1 gg2 gg3
            refine (HF.out.back _).mono ?_
            rintro e k16 ⟨rfl, hB⟩
            have HW := Lib.hid (belowVia hB HW.out)
            have R1 := Lib.hid (heap_below hB R1.out)
            have E1 := Lib.hid (heap_below hB E1.out)
            have Ba := Lib.hid (Ba.out.via hB)
            have Bb := Lib.hid (Bb.out.via hB)
            clear hB
            have hB := alloc_below k16 (.cells #[.string r1, .string r2] 23)
            have HW := Lib.hid (belowVia hB HW.out)
            have R1 := Lib.hid (heap_below hB R1.out)
            have E1 := Lib.hid (heap_below hB E1.out)
            have Ba := Lib.hid (Ba.out.via hB)
            have Bb := Lib.hid (Bb.out.via hB)
            have Br := Lib.hid (BoxQ.new k16 r1 r2)
            clear hB
            have gg0 := Bb.out.a
            have gg1 := Bb.out.b
            have gg2 := (cell_of_row _ _ 6 _ _ _ R1.out).trans (by rfl : _ = some (.string n3))
            have gg3 := (cell_of_row _ _ 7 _ _ _ R1.out).trans (by rfl : _ = some (.string d3))
            go_wp2_with fail
            clear gg0 gg1 gg2 gg3
            generalize (k16.alloc (.cells #[.string r1, .string r2] 23)) = uk16 at *
            generalize k16.heap.size = pr at *
            refine (HF.out.again _).mono ?_
            rintro e k17 ⟨rfl, hB⟩
            have HW := Lib.hid (belowVia hB HW.out)
            have R1 := Lib.hid (heap_below hB R1.out)
            have E1 := Lib.hid (heap_below hB E1.out)
            have Ba := Lib.hid (Ba.out.via hB)
            have Bb := Lib.hid (Bb.out.via hB)
            have Br := Lib.hid (Br.out.via hB)
            clear hB
            have hB := alloc_below k17 (.cells #[.string s1, .string s2] 23)
            have HW := Lib.hid (belowVia hB HW.out)
            have R1 := Lib.hid (heap_below hB R1.out)
            have E1 := Lib.hid (heap_below hB E1.out)
            have Ba := Lib.hid (Ba.out.via hB)
            have Bb := Lib.hid (Bb.out.via hB)
            have Br := Lib.hid (Br.out.via hB)
            have Bs := Lib.hid (BoxQ.new k17 s1 s2)
            clear hB
            go_upto_region 28 with fail
            generalize (k17.alloc (.cells #[.string s1, .string s2] 23)) = uk17 at *
            generalize k17.heap.size = ps at *
            have gg0 := Br.out.a
            have gg1 := Br.out.b
            have gg2 := Bs.out.a
            have gg3 := Bs.out.b
            have gg4 := Ba.out.a
            have gg5 := Ba.out.b
            have gg6 := (cell_of_row _ _ 0 _ _ _ E1.out).trans (by rfl : _ = some (.int .i64 e0))
            have gg7 := (cell_of_row _ _ 3 _ _ _ E1.out).trans (by rfl : _ = some (.int .i64 e3))
            by_cases ce0 : e0 = 0
            · have be0 : (e0 != 0) = false := by simp [ce0]
              by_cases ceo : eo = 0
              · have beo : (eo != 0) = false := by simp [ceo]
                obtain ⟨rfl, rfl⟩ := HF.out.bk ce0 ceo
                clear ce0 ceo
                by_cases ce3 : e3 = 0
                · have be3 : (e3 != 0) = false := by simp [ce3]
                  by_cases cep : ep = 0
                  · have bep : (ep != 0) = false := by simp [cep]
                    obtain ⟨rfl, rfl⟩ := HF.out.ag ce3 cep
                    clear ce3 cep
                    go_wp2_with fail
                    go_ret
                    exact ⟨(by first | rfl | simp), HW.out⟩
                  · have bep : (ep != 0) = true := by simp [cep]
                    clear ce3 cep
                    go_wp2_with fail
                    go_ret
                    exact ⟨(by first | rfl | simp), HW.out⟩
                · have be3 : (e3 != 0) = true := by simp [ce3]
                  clear ce3
                  go_wp2_with fail
                  go_ret
                  exact ⟨(by first | rfl | simp), HW.out⟩
              · have beo : (eo != 0) = true := by simp [ceo]
                clear ce0 ceo
                by_cases ce3 : e3 = 0
                · have be3 : (e3 != 0) = false := by simp [ce3]
                  by_cases cep : ep = 0
                  · have bep : (ep != 0) = false := by simp [cep]
                    obtain ⟨rfl, rfl⟩ := HF.out.ag ce3 cep
                    clear ce3 cep
                    go_wp2_with fail
                    go_ret
                    exact ⟨(by first | rfl | simp), HW.out⟩
                  · have bep : (ep != 0) = true := by simp [cep]
                    clear ce3 cep
                    go_wp2_with fail
                    go_ret
                    exact ⟨(by first | rfl | simp), HW.out⟩
                · have be3 : (e3 != 0) = true := by simp [ce3]
                  clear ce3
                  go_wp2_with fail
                  go_ret
                  exact ⟨(by first | rfl | simp), HW.out⟩
            · have be0 : (e0 != 0) = true := by simp [ce0]
              clear ce0
              by_cases ce3 : e3 = 0
              · have be3 : (e3 != 0) = false := by simp [ce3]
                by_cases cep : ep = 0
                · have bep : (ep != 0) = false := by simp [cep]
                  obtain ⟨rfl, rfl⟩ := HF.out.ag ce3 cep
                  clear ce3 cep
                  go_wp2_with fail
                  go_ret
                  exact ⟨(by first | rfl | simp), HW.out⟩
                · have bep : (ep != 0) = true := by simp [cep]
                  clear ce3 cep
                  go_wp2_with fail
                  go_ret
                  exact ⟨(by first | rfl | simp), HW.out⟩
              · have be3 : (e3 != 0) = true := by simp [ce3]
                clear ce3
                go_wp2_with fail
                go_ret
                exact ⟨(by first | rfl | simp), HW.out⟩
end Go.Proofs.YtelckldddflmmaaGreatDoor
