/- RationalOrder: what the law's body answers. -/
import Derived.Test.YtippeffbdjjcfaaGreatDoorRN1
import Derived.Test.YtippeffbdjjcfaaGreatDoorRM6
namespace Go.Proofs.YtippeffbdjjcfaaGreatDoor
open Go.RowKit Putlog

theorem toList_loop (b : ByteArray) : ∀ (n i : Nat) (r : List UInt8), b.size - i = n → ByteArray.toList.loop b i r = r.reverse ++ b.data.toList.drop i
  | 0, i, r, h => by
    rw [ByteArray.toList.loop, if_neg (by omega), List.drop_eq_nil_of_le (by have : b.data.toList.length = b.size := rfl; omega), List.append_nil]
  | n + 1, i, r, h => by
    have hi : i < b.size := by omega
    rw [ByteArray.toList.loop, if_pos hi, toList_loop b n (i + 1) _ (by omega), List.reverse_cons, List.append_assoc]
    have hi2 : i < b.data.toList.length := hi
    rw [List.drop_eq_getElem_cons hi2]
    have e : b.get! i = b.data.toList[i] := by
      show b.data[i]! = _
      rw [Array.getElem_toList]
      exact getElem!_pos b.data i hi
    rw [e]; rfl
theorem toList_data' (b : ByteArray) : b.toList = b.data.toList := by
  rw [ByteArray.toList, toList_loop b _ 0 [] rfl]; simp
theorem toList_eq {a b : ByteArray} (h : a.toList = b.toList) : a = b := by
  rw [toList_data', toList_data'] at h
  exact ByteArray.ext (Array.toList_inj.1 h)
theorem s7Keep {v w w1 : World} {a b c : Nat} {x1 x2 x3 x4 x5 x6 : Value} (h : w.cell? ⟨a, 0, none⟩ = some x1 ∧ w.cell? ⟨a, 1, none⟩ = some x2 ∧ w.cell? ⟨b, 0, none⟩ = some x3 ∧ w.cell? ⟨b, 1, none⟩ = some x4 ∧ w.cell? ⟨c, 0, none⟩ = some x5 ∧ w.cell? ⟨c, 1, none⟩ = some x6 ∧ Below v.heap.size v w) (hB : Below w.heap.size w w1) :
    w1.cell? ⟨a, 0, none⟩ = some x1 ∧ w1.cell? ⟨a, 1, none⟩ = some x2 ∧ w1.cell? ⟨b, 0, none⟩ = some x3 ∧ w1.cell? ⟨b, 1, none⟩ = some x4 ∧ w1.cell? ⟨c, 0, none⟩ = some x5 ∧ w1.cell? ⟨c, 1, none⟩ = some x6 ∧ Below v.heap.size v w1 := by
  obtain ⟨h1, h2, h3, h4, h5, h6, h9⟩ := h
  exact ⟨keptBelow hB h1, keptBelow hB h2, keptBelow hB h3, keptBelow hB h4, keptBelow hB h5, keptBelow hB h6, belowVia hB h9⟩
theorem BoxQ.setO {p q : Nat} {x y : ByteArray} {a b : Value} {w : World} (h : BoxQ p x y w) (hne : p ≠ q) : BoxQ p x y ((w.setCell ⟨q, 0, none⟩ a).setCell ⟨q, 1, none⟩ b) := ⟨cellOther (cellOther h.a hne) hne, cellOther (cellOther h.b hne) hne⟩
theorem want_setO {q : Nat} {a b : Value} {w : World} (h : w.heap[q]? = some (.cells #[a, b] 23 (0, 0))) (x y : Value) : ((w.setCell ⟨q, 0, none⟩ x).setCell ⟨q, 1, none⟩ y).heap[q]? = some (.cells #[x, y] 23 (0, 0)) :=
  heap_setCell_same _ _ 1 _ _ y (heap_setCell_same w _ 0 _ _ x h)
set_option maxRecDepth 100000 in
set_option maxHeartbeats 8000000 in
theorem Order_calls (x0 x1 x2 x3 y0 y1 y2 y3 z0 z1 z2 z3 s0 s1 : Int) (W : World) (hx0 : I64 x0) (hx1 : I64 x1) (hx2 : I64 x2) (hx3 : I64 x3) (hy0 : I64 y0) (hy1 : I64 y1) (hy2 : I64 y2) (hy3 : I64 y3) (hz0 : I64 z0) (hz1 : I64 z1) (hz2 : I64 z2) (hz3 : I64 z3) (hs0 : I64 s0) (hs1 : I64 s1) (hT : TabP W) :
    Calls Tryz.prog 6 #[.agg #[.int .i64 x0, .int .i64 x1, .int .i64 x2, .int .i64 x3], .agg #[.int .i64 y0, .int .i64 y1, .int .i64 y2, .int .i64 y3], .agg #[.int .i64 z0, .int .i64 z1, .int .i64 z2, .int .i64 z3], .agg #[.int .i64 s0, .int .i64 s1]] W fun e w' => e = .returned (.bool true) ∧ Below W.heap.size W w' := by
  have HLX := Lib.hid (fun W => long_q x0 x1 x2 x3 hx0 hx1 hx2 hx3 W)
  have HLY := Lib.hid (fun W => long_q y0 y1 y2 y3 hy0 hy1 hy2 hy3 W)
  have HLZ := Lib.hid (fun W => long_q z0 z1 z2 z3 hz0 hz1 hz2 hz3 W)
  have HLS := Lib.hid (fun W => small_q s0 s1 hs0 hs1 W)
  have HT := Lib.hid hT
  clear hx0 hx1 hx2 hx3 hy0 hy1 hy2 hy3 hz0 hz1 hz2 hz3 hs0 hs1 hT
  go_enter Tryz.func6, Tryz.ntmps6
  go_wp2_with fail
  have HW : Hid (Below W.heap.size W ((((W.alloc (.cells #[.int .i64 x0, .int .i64 x1, .int .i64 x2, .int .i64 x3] 24)).alloc (.cells #[.int .i64 y0, .int .i64 y1, .int .i64 y2, .int .i64 y3] 24)).alloc (.cells #[.int .i64 z0, .int .i64 z1, .int .i64 z2, .int .i64 z3] 24)).alloc (.cells #[.int .i64 s0, .int .i64 s1] 25))) := Lib.hid (belowVia (alloc_below _ _) (belowVia (alloc_below _ _) (belowVia (alloc_below _ _) (alloc_below W _))))
  have hA0 : (W.alloc (.cells #[.int .i64 x0, .int .i64 x1, .int .i64 x2, .int .i64 x3] 24)).heap[W.heap.size]? = some (.cells #[.int .i64 x0, .int .i64 x1, .int .i64 x2, .int .i64 x3] 24 (0, 0)) := (heap_alloc_new W (.cells #[.int .i64 x0, .int .i64 x1, .int .i64 x2, .int .i64 x3] 24))
  have hA0 := heap_below (alloc_below (W.alloc (.cells #[.int .i64 x0, .int .i64 x1, .int .i64 x2, .int .i64 x3] 24)) (.cells #[.int .i64 y0, .int .i64 y1, .int .i64 y2, .int .i64 y3] 24)) hA0
  have hA0 := heap_below (alloc_below ((W.alloc (.cells #[.int .i64 x0, .int .i64 x1, .int .i64 x2, .int .i64 x3] 24)).alloc (.cells #[.int .i64 y0, .int .i64 y1, .int .i64 y2, .int .i64 y3] 24)) (.cells #[.int .i64 z0, .int .i64 z1, .int .i64 z2, .int .i64 z3] 24)) hA0
  have hA0 := heap_below (alloc_below (((W.alloc (.cells #[.int .i64 x0, .int .i64 x1, .int .i64 x2, .int .i64 x3] 24)).alloc (.cells #[.int .i64 y0, .int .i64 y1, .int .i64 y2, .int .i64 y3] 24)).alloc (.cells #[.int .i64 z0, .int .i64 z1, .int .i64 z2, .int .i64 z3] 24)) (.cells #[.int .i64 s0, .int .i64 s1] 25)) hA0
  have HX := Lib.hid hA0
  have hA1 : ((W.alloc (.cells #[.int .i64 x0, .int .i64 x1, .int .i64 x2, .int .i64 x3] 24)).alloc (.cells #[.int .i64 y0, .int .i64 y1, .int .i64 y2, .int .i64 y3] 24)).heap[(W.heap.size + 1)]? = some (.cells #[.int .i64 y0, .int .i64 y1, .int .i64 y2, .int .i64 y3] 24 (0, 0)) := (by have h := heap_alloc_new (W.alloc (.cells #[.int .i64 x0, .int .i64 x1, .int .i64 x2, .int .i64 x3] 24)) (.cells #[.int .i64 y0, .int .i64 y1, .int .i64 y2, .int .i64 y3] 24); rwa [show (W.alloc (.cells #[.int .i64 x0, .int .i64 x1, .int .i64 x2, .int .i64 x3] 24)).heap.size = (W.heap.size + 1) by simp] at h)
  have hA1 := heap_below (alloc_below ((W.alloc (.cells #[.int .i64 x0, .int .i64 x1, .int .i64 x2, .int .i64 x3] 24)).alloc (.cells #[.int .i64 y0, .int .i64 y1, .int .i64 y2, .int .i64 y3] 24)) (.cells #[.int .i64 z0, .int .i64 z1, .int .i64 z2, .int .i64 z3] 24)) hA1
  have hA1 := heap_below (alloc_below (((W.alloc (.cells #[.int .i64 x0, .int .i64 x1, .int .i64 x2, .int .i64 x3] 24)).alloc (.cells #[.int .i64 y0, .int .i64 y1, .int .i64 y2, .int .i64 y3] 24)).alloc (.cells #[.int .i64 z0, .int .i64 z1, .int .i64 z2, .int .i64 z3] 24)) (.cells #[.int .i64 s0, .int .i64 s1] 25)) hA1
  have HY := Lib.hid hA1
  have hA2 : (((W.alloc (.cells #[.int .i64 x0, .int .i64 x1, .int .i64 x2, .int .i64 x3] 24)).alloc (.cells #[.int .i64 y0, .int .i64 y1, .int .i64 y2, .int .i64 y3] 24)).alloc (.cells #[.int .i64 z0, .int .i64 z1, .int .i64 z2, .int .i64 z3] 24)).heap[(W.heap.size + 1 + 1)]? = some (.cells #[.int .i64 z0, .int .i64 z1, .int .i64 z2, .int .i64 z3] 24 (0, 0)) := (by have h := heap_alloc_new ((W.alloc (.cells #[.int .i64 x0, .int .i64 x1, .int .i64 x2, .int .i64 x3] 24)).alloc (.cells #[.int .i64 y0, .int .i64 y1, .int .i64 y2, .int .i64 y3] 24)) (.cells #[.int .i64 z0, .int .i64 z1, .int .i64 z2, .int .i64 z3] 24); rwa [show ((W.alloc (.cells #[.int .i64 x0, .int .i64 x1, .int .i64 x2, .int .i64 x3] 24)).alloc (.cells #[.int .i64 y0, .int .i64 y1, .int .i64 y2, .int .i64 y3] 24)).heap.size = (W.heap.size + 1 + 1) by simp] at h)
  have hA2 := heap_below (alloc_below (((W.alloc (.cells #[.int .i64 x0, .int .i64 x1, .int .i64 x2, .int .i64 x3] 24)).alloc (.cells #[.int .i64 y0, .int .i64 y1, .int .i64 y2, .int .i64 y3] 24)).alloc (.cells #[.int .i64 z0, .int .i64 z1, .int .i64 z2, .int .i64 z3] 24)) (.cells #[.int .i64 s0, .int .i64 s1] 25)) hA2
  have HZ := Lib.hid hA2
  have hA3 : ((((W.alloc (.cells #[.int .i64 x0, .int .i64 x1, .int .i64 x2, .int .i64 x3] 24)).alloc (.cells #[.int .i64 y0, .int .i64 y1, .int .i64 y2, .int .i64 y3] 24)).alloc (.cells #[.int .i64 z0, .int .i64 z1, .int .i64 z2, .int .i64 z3] 24)).alloc (.cells #[.int .i64 s0, .int .i64 s1] 25)).heap[(W.heap.size + 1 + 1 + 1)]? = some (.cells #[.int .i64 s0, .int .i64 s1] 25 (0, 0)) := (by have h := heap_alloc_new (((W.alloc (.cells #[.int .i64 x0, .int .i64 x1, .int .i64 x2, .int .i64 x3] 24)).alloc (.cells #[.int .i64 y0, .int .i64 y1, .int .i64 y2, .int .i64 y3] 24)).alloc (.cells #[.int .i64 z0, .int .i64 z1, .int .i64 z2, .int .i64 z3] 24)) (.cells #[.int .i64 s0, .int .i64 s1] 25); rwa [show (((W.alloc (.cells #[.int .i64 x0, .int .i64 x1, .int .i64 x2, .int .i64 x3] 24)).alloc (.cells #[.int .i64 y0, .int .i64 y1, .int .i64 y2, .int .i64 y3] 24)).alloc (.cells #[.int .i64 z0, .int .i64 z1, .int .i64 z2, .int .i64 z3] 24)).heap.size = (W.heap.size + 1 + 1 + 1) by simp] at h)
  have HS := Lib.hid hA3
  clear hA0 hA1 hA2 hA3
  have HT := Lib.hid (HT.out.via HW.out)
  generalize ((((W.alloc (.cells #[.int .i64 x0, .int .i64 x1, .int .i64 x2, .int .i64 x3] 24)).alloc (.cells #[.int .i64 y0, .int .i64 y1, .int .i64 y2, .int .i64 y3] 24)).alloc (.cells #[.int .i64 z0, .int .i64 z1, .int .i64 z2, .int .i64 z3] 24)).alloc (.cells #[.int .i64 s0, .int .i64 s1] 25)) = w0 at *
  refine (sane_q w0 HT.out).mono ?_
  rintro e v1 ⟨rfl, hB⟩
  have HW := Lib.hid (belowVia hB HW.out)
  have HX := Lib.hid (heap_below hB HX.out)
  have HY := Lib.hid (heap_below hB HY.out)
  have HZ := Lib.hid (heap_below hB HZ.out)
  have HS := Lib.hid (heap_below hB HS.out)
  clear hB HT
  have g0 := (cell_of_row _ _ 0 _ _ _ HX.out).trans (by rfl : _ = some (.int .i64 x0))
  have g1 := (cell_of_row _ _ 1 _ _ _ HX.out).trans (by rfl : _ = some (.int .i64 x1))
  have g2 := (cell_of_row _ _ 2 _ _ _ HX.out).trans (by rfl : _ = some (.int .i64 x2))
  have g3 := (cell_of_row _ _ 3 _ _ _ HX.out).trans (by rfl : _ = some (.int .i64 x3))
  go_wp2_with fail
  clear g0 g1 g2 g3 HX
  refine (HLX.out _).mono ?_
  rintro e wa ⟨⟨qa, rfl, hqa⟩, hB⟩
  have HW := Lib.hid (belowVia hB HW.out)
  have HY := Lib.hid (heap_below hB HY.out)
  have HZ := Lib.hid (heap_below hB HZ.out)
  have HS := Lib.hid (heap_below hB HS.out)
  clear hB
  have Qa := Lib.hid hqa
  clear hqa HLX
  have hB := alloc_below wa (.cells #[.string (intB qa.num), .string (intB qa.den)] 23)
  have HW := Lib.hid (belowVia hB HW.out)
  have HY := Lib.hid (heap_below hB HY.out)
  have HZ := Lib.hid (heap_below hB HZ.out)
  have HS := Lib.hid (heap_below hB HS.out)
  have Ba := Lib.hid (BoxQ.new wa (intB qa.num) (intB qa.den))
  clear hB
  have g0 := (cell_of_row _ _ 0 _ _ _ HY.out).trans (by rfl : _ = some (.int .i64 y0))
  have g1 := (cell_of_row _ _ 1 _ _ _ HY.out).trans (by rfl : _ = some (.int .i64 y1))
  have g2 := (cell_of_row _ _ 2 _ _ _ HY.out).trans (by rfl : _ = some (.int .i64 y2))
  have g3 := (cell_of_row _ _ 3 _ _ _ HY.out).trans (by rfl : _ = some (.int .i64 y3))
  go_wp2_with fail
  clear g0 g1 g2 g3 HY
  generalize (wa.alloc (.cells #[.string (intB qa.num), .string (intB qa.den)] 23)) = ua at *
  generalize wa.heap.size = pa at *
  refine (HLY.out _).mono ?_
  rintro e wb ⟨⟨qb, rfl, hqb⟩, hB⟩
  have HW := Lib.hid (belowVia hB HW.out)
  have HZ := Lib.hid (heap_below hB HZ.out)
  have HS := Lib.hid (heap_below hB HS.out)
  have Ba := Lib.hid (Ba.out.via hB)
  clear hB
  have Qb := Lib.hid hqb
  clear hqb HLY
  have hB := alloc_below wb (.cells #[.string (intB qb.num), .string (intB qb.den)] 23)
  have HW := Lib.hid (belowVia hB HW.out)
  have HZ := Lib.hid (heap_below hB HZ.out)
  have HS := Lib.hid (heap_below hB HS.out)
  have Ba := Lib.hid (Ba.out.via hB)
  have Bb := Lib.hid (BoxQ.new wb (intB qb.num) (intB qb.den))
  clear hB
  have g0 := (cell_of_row _ _ 0 _ _ _ HZ.out).trans (by rfl : _ = some (.int .i64 z0))
  have g1 := (cell_of_row _ _ 1 _ _ _ HZ.out).trans (by rfl : _ = some (.int .i64 z1))
  have g2 := (cell_of_row _ _ 2 _ _ _ HZ.out).trans (by rfl : _ = some (.int .i64 z2))
  have g3 := (cell_of_row _ _ 3 _ _ _ HZ.out).trans (by rfl : _ = some (.int .i64 z3))
  go_wp2_with fail
  clear g0 g1 g2 g3 HZ
  generalize (wb.alloc (.cells #[.string (intB qb.num), .string (intB qb.den)] 23)) = ub at *
  generalize wb.heap.size = pb at *
  refine (HLZ.out _).mono ?_
  rintro e wc ⟨⟨qc, rfl, hqc⟩, hB⟩
  have HW := Lib.hid (belowVia hB HW.out)
  have HS := Lib.hid (heap_below hB HS.out)
  have Ba := Lib.hid (Ba.out.via hB)
  have Bb := Lib.hid (Bb.out.via hB)
  clear hB
  have Qc := Lib.hid hqc
  clear hqc HLZ
  have hB := alloc_below wc (.cells #[.string (intB qc.num), .string (intB qc.den)] 23)
  have HW := Lib.hid (belowVia hB HW.out)
  have HS := Lib.hid (heap_below hB HS.out)
  have Ba := Lib.hid (Ba.out.via hB)
  have Bb := Lib.hid (Bb.out.via hB)
  have Bc := Lib.hid (BoxQ.new wc (intB qc.num) (intB qc.den))
  clear hB
  have g0 := (cell_of_row _ _ 0 _ _ _ HS.out).trans (by rfl : _ = some (.int .i64 s0))
  have g1 := (cell_of_row _ _ 1 _ _ _ HS.out).trans (by rfl : _ = some (.int .i64 s1))
  go_wp2_with fail
  clear g0 g1 HS
  generalize (wc.alloc (.cells #[.string (intB qc.num), .string (intB qc.den)] 23)) = uc at *
  generalize wc.heap.size = pc at *
  refine (HLS.out _).mono ?_
  rintro e wt ⟨⟨qt, rfl, hqt⟩, hB⟩
  have HW := Lib.hid (belowVia hB HW.out)
  have Ba := Lib.hid (Ba.out.via hB)
  have Bb := Lib.hid (Bb.out.via hB)
  have Bc := Lib.hid (Bc.out.via hB)
  clear hB
  have Qt := Lib.hid hqt
  clear hqt HLS
  have hB := alloc_below wt (.cells #[.string (intB qt.num), .string (intB qt.den)] 23)
  have HW := Lib.hid (belowVia hB HW.out)
  have Ba := Lib.hid (Ba.out.via hB)
  have Bb := Lib.hid (Bb.out.via hB)
  have Bc := Lib.hid (Bc.out.via hB)
  have Bt := Lib.hid (BoxQ.new wt (intB qt.num) (intB qt.den))
  clear hB
  have HF := Lib.hid (ord_facts Qa.out Qb.out Qc.out Qt.out)
  clear Qa Qb Qc Qt
  generalize intB qa.num = na at *
  generalize intB qa.den = da at *
  generalize intB qb.num = nb at *
  generalize intB qb.den = db at *
  generalize intB qc.num = nc at *
  generalize intB qc.den = dc at *
  generalize intB qt.num = nt at *
  generalize intB qt.den = dt at *
  generalize numB (subQ (some qa) (some qb)) = d1 at *
  generalize denB (subQ (some qa) (some qb)) = d2 at *
  generalize errQ (subQ (some qa) (some qb)) = e1 at *
  generalize intB (qa + qt).num = p1 at *
  generalize intB (qa + qt).den = p2 at *
  generalize intB (qb + qt).num = q1 at *
  generalize intB (qb + qt).den = q2 at *
  generalize intB (qa * qt).num = u1 at *
  generalize intB (qa * qt).den = u2 at *
  generalize intB (qb * qt).num = v1' at *
  generalize intB (qb * qt).den = v2' at *
  generalize cmpR qa qb = c1 at *
  generalize cmpR qb qc = c2 at *
  generalize cmpR qa qc = c3 at *
  generalize cmpR qt 0 = ct at *
  generalize cmpR (qa * qt) (qb * qt) = m at *
  clear qa qb qc qt
  obtain ⟨e0, e1⟩ := Ba.out
  obtain ⟨e2, e3⟩ := Bb.out
  go_wp2_with fail
  clear e0 e1 e2 e3
  generalize (wt.alloc (.cells #[.string nt, .string dt] 23)) = ut at *
  generalize wt.heap.size = pt at *
  refine (HF.out.ab _).mono ?_
  rintro e k1 ⟨rfl, hB⟩
  have HW := Lib.hid (belowVia hB HW.out)
  have Ba := Lib.hid (Ba.out.via hB)
  have Bb := Lib.hid (Bb.out.via hB)
  have Bc := Lib.hid (Bc.out.via hB)
  have Bt := Lib.hid (Bt.out.via hB)
  clear hB
  obtain ⟨e0, e1⟩ := Bb.out
  obtain ⟨e2, e3⟩ := Bc.out
  go_wp2_with fail
  clear e0 e1 e2 e3
  refine (HF.out.bc _).mono ?_
  rintro e k2 ⟨rfl, hB⟩
  have HW := Lib.hid (belowVia hB HW.out)
  have Ba := Lib.hid (Ba.out.via hB)
  have Bb := Lib.hid (Bb.out.via hB)
  have Bc := Lib.hid (Bc.out.via hB)
  have Bt := Lib.hid (Bt.out.via hB)
  clear hB
  obtain ⟨e0, e1⟩ := Ba.out
  obtain ⟨e2, e3⟩ := Bc.out
  go_wp2_with fail
  clear e0 e1 e2 e3
  refine (HF.out.ac _).mono ?_
  rintro e k3 ⟨rfl, hB⟩
  have HW := Lib.hid (belowVia hB HW.out)
  have Ba := Lib.hid (Ba.out.via hB)
  have Bb := Lib.hid (Bb.out.via hB)
  have Bc := Lib.hid (Bc.out.via hB)
  have Bt := Lib.hid (Bt.out.via hB)
  clear hB
  go_upto_region 9 with fail
  go_cut [92] (fun s92 wx => s92 = .bool false ∧ BoxQ pa na da wx ∧ BoxQ pb nb db wx ∧ BoxQ pt nt dt wx ∧ Below W.heap.size W wx)
  case first =>
    have w1 : IntKind.i64.wrap (-c1) = -c1 := by rw [IntKind.wrap_i64]; have := HF.out.b1; omega
    clear Bc
    obtain ⟨e0, e1⟩ := Bb.out
    obtain ⟨e2, e3⟩ := Ba.out
    go_wp2_with fail
    clear e0 e1 e2 e3
    refine (HF.out.ba _).mono ?_
    rintro e k4 ⟨rfl, hB⟩
    have HW := Lib.hid (belowVia hB HW.out)
    have Ba := Lib.hid (Ba.out.via hB)
    have Bb := Lib.hid (Bb.out.via hB)
    have Bt := Lib.hid (Bt.out.via hB)
    clear hB
    have g1 : ¬ c1 < -1 := by have := HF.out.b1; omega
    have g2 : ¬ 1 < c1 := by have := HF.out.b1; omega
    rcases HF.out.eq with ⟨z1, z2, z3⟩ | ⟨z1, z2⟩
    · subst z1 z2 z3
      rcases (show 0 < c2 ∨ c2 = 0 ∨ c2 < 0 by omega) with hc2 | hc2 | hc2
      · have j1 : 0 < c2 := hc2
        clear hc2
        obtain ⟨e0, e1⟩ := Ba.out
        obtain ⟨e2, e3⟩ := Bb.out
        go_wp2_with fail
        clear e0 e1 e2 e3
        refine (HF.out.aa _).mono ?_
        rintro e k5 ⟨rfl, hB⟩
        have HW := Lib.hid (belowVia hB HW.out)
        have Ba := Lib.hid (Ba.out.via hB)
        have Bb := Lib.hid (Bb.out.via hB)
        have Bt := Lib.hid (Bt.out.via hB)
        clear hB
        go_wp2_with fail
        go_meet
        case rel => exact ⟨(by first | rfl | (simp <;> omega) | (show Value.bool _ = Value.bool false; congr 1; simp <;> omega)), Ba.out, Bb.out, Bt.out, HW.out⟩
      · have j1 : c2 = 0 := hc2
        have j2 := HF.out.tr (by omega) (by omega)
        have j3 : ¬ c2 < 0 := by omega
        replace j1 : c2 ≤ 0 := by omega
        clear hc2
        obtain ⟨e0, e1⟩ := Ba.out
        obtain ⟨e2, e3⟩ := Bb.out
        go_wp2_with fail
        clear e0 e1 e2 e3
        refine (HF.out.aa _).mono ?_
        rintro e k6 ⟨rfl, hB⟩
        have HW := Lib.hid (belowVia hB HW.out)
        have Ba := Lib.hid (Ba.out.via hB)
        have Bb := Lib.hid (Bb.out.via hB)
        have Bt := Lib.hid (Bt.out.via hB)
        clear hB
        go_wp2_with fail
        go_meet
        case rel => exact ⟨(by first | rfl | (simp <;> omega) | (show Value.bool _ = Value.bool false; congr 1; simp <;> omega)), Ba.out, Bb.out, Bt.out, HW.out⟩
      · have j1 : c2 < 0 := hc2
        have j2 := HF.out.tr2 (by omega) j1
        clear hc2
        obtain ⟨e0, e1⟩ := Ba.out
        obtain ⟨e2, e3⟩ := Bb.out
        go_wp2_with fail
        clear e0 e1 e2 e3
        refine (HF.out.aa _).mono ?_
        rintro e k7 ⟨rfl, hB⟩
        have HW := Lib.hid (belowVia hB HW.out)
        have Ba := Lib.hid (Ba.out.via hB)
        have Bb := Lib.hid (Bb.out.via hB)
        have Bt := Lib.hid (Bt.out.via hB)
        clear hB
        go_wp2_with fail
        go_meet
        case rel => exact ⟨(by first | rfl | (simp <;> omega) | (show Value.bool _ = Value.bool false; congr 1; simp <;> omega)), Ba.out, Bb.out, Bt.out, HW.out⟩
    · have z3 : (c1 == 0) = false := by rw [beq_eq_false_iff_ne]; exact z1
      have zz : (∃ _ : na.toList = nb.toList, ¬ da.toList = db.toList) ∨ ¬ na.toList = nb.toList := by
        by_cases k1 : na.toList = nb.toList
        · by_cases k2 : da.toList = db.toList
          · exact absurd ⟨toList_eq k1, toList_eq k2⟩ z2
          · exact .inl ⟨k1, k2⟩
        · exact .inr k1
      clear z2
      rcases zz with ⟨k1, k2⟩ | k1
      · rcases (show 0 < c1 ∨ c1 < 0 by omega) with hc1 | hc1
        · clear z1
          obtain ⟨e0, e1⟩ := Ba.out
          obtain ⟨e2, e3⟩ := Bb.out
          go_wp2_with fail
          clear e0 e1 e2 e3
          refine (HF.out.aa _).mono ?_
          rintro e k8 ⟨rfl, hB⟩
          have HW := Lib.hid (belowVia hB HW.out)
          have Ba := Lib.hid (Ba.out.via hB)
          have Bb := Lib.hid (Bb.out.via hB)
          have Bt := Lib.hid (Bt.out.via hB)
          clear hB
          go_wp2_with fail
          go_meet
          case rel => exact ⟨(by first | rfl | (simp <;> omega) | (show Value.bool _ = Value.bool false; congr 1; simp <;> omega)), Ba.out, Bb.out, Bt.out, HW.out⟩
        · clear z1
          rcases (show 0 < c2 ∨ c2 = 0 ∨ c2 < 0 by omega) with hc2 | hc2 | hc2
          · have j1 : 0 < c2 := hc2
            clear hc2
            obtain ⟨e0, e1⟩ := Ba.out
            obtain ⟨e2, e3⟩ := Bb.out
            go_wp2_with fail
            clear e0 e1 e2 e3
            refine (HF.out.aa _).mono ?_
            rintro e k9 ⟨rfl, hB⟩
            have HW := Lib.hid (belowVia hB HW.out)
            have Ba := Lib.hid (Ba.out.via hB)
            have Bb := Lib.hid (Bb.out.via hB)
            have Bt := Lib.hid (Bt.out.via hB)
            clear hB
            go_wp2_with fail
            go_meet
            case rel => exact ⟨(by first | rfl | (simp <;> omega) | (show Value.bool _ = Value.bool false; congr 1; simp <;> omega)), Ba.out, Bb.out, Bt.out, HW.out⟩
          · have j1 : c2 = 0 := hc2
            have j2 := HF.out.tr (by omega) (by omega)
            have j3 : ¬ c2 < 0 := by omega
            replace j1 : c2 ≤ 0 := by omega
            clear hc2
            obtain ⟨e0, e1⟩ := Ba.out
            obtain ⟨e2, e3⟩ := Bb.out
            go_wp2_with fail
            clear e0 e1 e2 e3
            refine (HF.out.aa _).mono ?_
            rintro e k10 ⟨rfl, hB⟩
            have HW := Lib.hid (belowVia hB HW.out)
            have Ba := Lib.hid (Ba.out.via hB)
            have Bb := Lib.hid (Bb.out.via hB)
            have Bt := Lib.hid (Bt.out.via hB)
            clear hB
            go_wp2_with fail
            go_meet
            case rel => exact ⟨(by first | rfl | (simp <;> omega) | (show Value.bool _ = Value.bool false; congr 1; simp <;> omega)), Ba.out, Bb.out, Bt.out, HW.out⟩
          · have j1 : c2 < 0 := hc2
            have j2 := HF.out.tr2 (by omega) j1
            clear hc2
            obtain ⟨e0, e1⟩ := Ba.out
            obtain ⟨e2, e3⟩ := Bb.out
            go_wp2_with fail
            clear e0 e1 e2 e3
            refine (HF.out.aa _).mono ?_
            rintro e k11 ⟨rfl, hB⟩
            have HW := Lib.hid (belowVia hB HW.out)
            have Ba := Lib.hid (Ba.out.via hB)
            have Bb := Lib.hid (Bb.out.via hB)
            have Bt := Lib.hid (Bt.out.via hB)
            clear hB
            go_wp2_with fail
            go_meet
            case rel => exact ⟨(by first | rfl | (simp <;> omega) | (show Value.bool _ = Value.bool false; congr 1; simp <;> omega)), Ba.out, Bb.out, Bt.out, HW.out⟩
      · rcases (show 0 < c1 ∨ c1 < 0 by omega) with hc1 | hc1
        · clear z1
          obtain ⟨e0, e1⟩ := Ba.out
          obtain ⟨e2, e3⟩ := Bb.out
          go_wp2_with fail
          clear e0 e1 e2 e3
          refine (HF.out.aa _).mono ?_
          rintro e k12 ⟨rfl, hB⟩
          have HW := Lib.hid (belowVia hB HW.out)
          have Ba := Lib.hid (Ba.out.via hB)
          have Bb := Lib.hid (Bb.out.via hB)
          have Bt := Lib.hid (Bt.out.via hB)
          clear hB
          go_wp2_with fail
          go_meet
          case rel => exact ⟨(by first | rfl | (simp <;> omega) | (show Value.bool _ = Value.bool false; congr 1; simp <;> omega)), Ba.out, Bb.out, Bt.out, HW.out⟩
        · clear z1
          rcases (show 0 < c2 ∨ c2 = 0 ∨ c2 < 0 by omega) with hc2 | hc2 | hc2
          · have j1 : 0 < c2 := hc2
            clear hc2
            obtain ⟨e0, e1⟩ := Ba.out
            obtain ⟨e2, e3⟩ := Bb.out
            go_wp2_with fail
            clear e0 e1 e2 e3
            refine (HF.out.aa _).mono ?_
            rintro e k13 ⟨rfl, hB⟩
            have HW := Lib.hid (belowVia hB HW.out)
            have Ba := Lib.hid (Ba.out.via hB)
            have Bb := Lib.hid (Bb.out.via hB)
            have Bt := Lib.hid (Bt.out.via hB)
            clear hB
            go_wp2_with fail
            go_meet
            case rel => exact ⟨(by first | rfl | (simp <;> omega) | (show Value.bool _ = Value.bool false; congr 1; simp <;> omega)), Ba.out, Bb.out, Bt.out, HW.out⟩
          · have j1 : c2 = 0 := hc2
            have j2 := HF.out.tr (by omega) (by omega)
            have j3 : ¬ c2 < 0 := by omega
            replace j1 : c2 ≤ 0 := by omega
            clear hc2
            obtain ⟨e0, e1⟩ := Ba.out
            obtain ⟨e2, e3⟩ := Bb.out
            go_wp2_with fail
            clear e0 e1 e2 e3
            refine (HF.out.aa _).mono ?_
            rintro e k14 ⟨rfl, hB⟩
            have HW := Lib.hid (belowVia hB HW.out)
            have Ba := Lib.hid (Ba.out.via hB)
            have Bb := Lib.hid (Bb.out.via hB)
            have Bt := Lib.hid (Bt.out.via hB)
            clear hB
            go_wp2_with fail
            go_meet
            case rel => exact ⟨(by first | rfl | (simp <;> omega) | (show Value.bool _ = Value.bool false; congr 1; simp <;> omega)), Ba.out, Bb.out, Bt.out, HW.out⟩
          · have j1 : c2 < 0 := hc2
            have j2 := HF.out.tr2 (by omega) j1
            clear hc2
            obtain ⟨e0, e1⟩ := Ba.out
            obtain ⟨e2, e3⟩ := Bb.out
            go_wp2_with fail
            clear e0 e1 e2 e3
            refine (HF.out.aa _).mono ?_
            rintro e k15 ⟨rfl, hB⟩
            have HW := Lib.hid (belowVia hB HW.out)
            have Ba := Lib.hid (Ba.out.via hB)
            have Bb := Lib.hid (Bb.out.via hB)
            have Bt := Lib.hid (Bt.out.via hB)
            clear hB
            go_wp2_with fail
            go_meet
            case rel => exact ⟨(by first | rfl | (simp <;> omega) | (show Value.bool _ = Value.bool false; congr 1; simp <;> omega)), Ba.out, Bb.out, Bt.out, HW.out⟩
  case rest =>
    obtain ⟨rfl, Ba, Bb, Bt, HW⟩ := hcut
    have Ba := Lib.hid Ba
    have Bb := Lib.hid Bb
    have Bt := Lib.hid Bt
    have HW := Lib.hid HW
    have w1 : True := trivial
    obtain ⟨e0, e1⟩ := Ba.out
    obtain ⟨e2, e3⟩ := Bb.out
    go_wp2_with fail
    clear e0 e1 e2 e3
    refine (HF.out.sub _).mono ?_
    rintro e k16 ⟨rfl, hB⟩
    have HW := Lib.hid (belowVia hB HW.out)
    have Ba := Lib.hid (Ba.out.via hB)
    have Bb := Lib.hid (Bb.out.via hB)
    have Bt := Lib.hid (Bt.out.via hB)
    clear hB
    go_wp2_with fail
    have hB := alloc_below k16 (.cells #[.string d1, .string d2] 23)
    have HW := Lib.hid (belowVia hB HW.out)
    have Ba := Lib.hid (Ba.out.via hB)
    have Bb := Lib.hid (Bb.out.via hB)
    have Bt := Lib.hid (Bt.out.via hB)
    have Bd := Lib.hid (BoxQ.new k16 d1 d2)
    clear hB
    generalize k16.alloc (.cells #[.string d1, .string d2] 23) = kd at *
    generalize k16.heap.size = pd at *
    go_cut [107] (fun s107 wx => s107 = .bool false ∧ BoxQ pa na da wx ∧ BoxQ pb nb db wx ∧ BoxQ pt nt dt wx ∧ Below W.heap.size W wx)
    case first =>
      rcases HF.out.subc with rfl | ⟨rfl, hdc⟩
      · go_quiet (fail)
        go_wp2_with fail
        go_meet
        case rel => exact ⟨rfl, Ba.out.via (below_drewN (Below.refl _ _) _), Bb.out.via (below_drewN (Below.refl _ _) _), Bt.out.via (below_drewN (Below.refl _ _) _), belowVia (below_drewN (Below.refl _ _) _) HW.out⟩
      · have HDC := Lib.hid hdc
        clear hdc
        obtain ⟨l0, l1⟩ := Bd.out
        go_region_held3 (fun w' => w'.cell? ⟨pd, 0, none⟩ = some (.string d1) ∧ w'.cell? ⟨pd, 1, none⟩ = some (.string d2) ∧ Below kd.heap.size kd w')
          (first | exact ⟨l0, l1, (Below.refl _ _).drew⟩ | exact s3Keep (by assumption) hB3) (first
          | (go_at_call 37; (with_reducible refine (is_q _ _ _).mono ?_); rintro e u3 ⟨rfl, hB3⟩)
          | (go_at_call 17; (with_reducible refine (HDC.out _).mono ?_); rintro e u3 ⟨rfl, hB3⟩))
        all_goals
          have HH : Hid (Below kd.heap.size kd _) := And.right (And.right (by assumption))
          go_wp2_with fail
          go_meet
          case rel => exact ⟨rfl, Ba.out.via HH.out, Bb.out.via HH.out, Bt.out.via HH.out, belowVia HH.out HW.out⟩
    case rest =>
      obtain ⟨rfl, Ba, Bb, Bt, HW⟩ := hcut
      have Ba := Lib.hid Ba
      have Bb := Lib.hid Bb
      have Bt := Lib.hid Bt
      have HW := Lib.hid HW
      obtain ⟨e0, e1⟩ := Ba.out
      obtain ⟨e2, e3⟩ := Bt.out
      go_wp2_with fail
      clear e0 e1 e2 e3
      refine (HF.out.at_ _).mono ?_
      rintro e k17 ⟨rfl, hB⟩
      have HW := Lib.hid (belowVia hB HW.out)
      have Ba := Lib.hid (Ba.out.via hB)
      have Bb := Lib.hid (Bb.out.via hB)
      have Bt := Lib.hid (Bt.out.via hB)
      clear hB
      have N1 : Hid (pa ≠ k17.heap.size ∧ pb ≠ k17.heap.size ∧ pt ≠ k17.heap.size) := ⟨Nat.ne_of_lt Ba.out.lt, Nat.ne_of_lt Bb.out.lt, Nat.ne_of_lt Bt.out.lt⟩
      have G1 : Hid (W.heap.size ≤ k17.heap.size) := HW.out.size
      have hB := alloc_below k17 (.cells #[.string p1, .string p2] 23)
      have HW := Lib.hid (belowVia hB HW.out)
      have Ba := Lib.hid (Ba.out.via hB)
      have Bb := Lib.hid (Bb.out.via hB)
      have Bt := Lib.hid (Bt.out.via hB)
      have R1 := Lib.hid (heap_alloc_new k17 (.cells #[.string p1, .string p2] 23))
      clear hB
      obtain ⟨e0, e1⟩ := Bb.out
      obtain ⟨e2, e3⟩ := Bt.out
      go_wp2_with fail
      clear e0 e1 e2 e3
      generalize k17.alloc (.cells #[.string p1, .string p2] 23) = k20 at *
      generalize k17.heap.size = p20 at *
      refine (HF.out.bt _).mono ?_
      rintro e k18 ⟨rfl, hB⟩
      have HW := Lib.hid (belowVia hB HW.out)
      have Ba := Lib.hid (Ba.out.via hB)
      have Bb := Lib.hid (Bb.out.via hB)
      have Bt := Lib.hid (Bt.out.via hB)
      have R1 := Lib.hid (heap_below hB R1.out)
      clear hB
      have N2 : Hid (pa ≠ k18.heap.size ∧ pb ≠ k18.heap.size ∧ pt ≠ k18.heap.size ∧ p20 ≠ k18.heap.size) := ⟨Nat.ne_of_lt Ba.out.lt, Nat.ne_of_lt Bb.out.lt, Nat.ne_of_lt Bt.out.lt, Nat.ne_of_lt (Array.getElem?_eq_some_iff.1 R1.out).1⟩
      have G2 : Hid (W.heap.size ≤ k18.heap.size) := HW.out.size
      have hB := alloc_below k18 (.cells #[.string q1, .string q2] 23)
      have HW := Lib.hid (belowVia hB HW.out)
      have Ba := Lib.hid (Ba.out.via hB)
      have Bb := Lib.hid (Bb.out.via hB)
      have Bt := Lib.hid (Bt.out.via hB)
      have R1 := Lib.hid (heap_below hB R1.out)
      have R2 := Lib.hid (heap_alloc_new k18 (.cells #[.string q1, .string q2] 23))
      clear hB
      obtain ⟨m0, m1⟩ := cell2 R1.out
      obtain ⟨m2, m3⟩ := cell2b R1.out
      obtain ⟨m4, m5⟩ := cell2 R2.out
      obtain ⟨m6, m7⟩ := cell2b R2.out
      go_wp2_with fail
      generalize k18.alloc (.cells #[.string q1, .string q2] 23) = k21 at *
      generalize k18.heap.size = p21 at *
      clear m0 m1 m2 m3 m4 m5 m6 m7
      refine (HF.out.pq _).mono ?_
      rintro e k19 ⟨rfl, hB⟩
      have HW := Lib.hid (belowVia hB HW.out)
      have Ba := Lib.hid (Ba.out.via hB)
      have Bb := Lib.hid (Bb.out.via hB)
      have Bt := Lib.hid (Bt.out.via hB)
      have R1 := Lib.hid (heap_below hB R1.out)
      have R2 := Lib.hid (heap_below hB R2.out)
      clear hB
      obtain ⟨e0, e1⟩ := Ba.out
      obtain ⟨e2, e3⟩ := Bt.out
      go_wp2_with fail
      clear e0 e1 e2 e3
      refine (HF.out.am _).mono ?_
      rintro e k20 ⟨rfl, hB⟩
      have HW := Lib.hid (belowVia hB HW.out)
      have Ba := Lib.hid (Ba.out.via hB)
      have Bb := Lib.hid (Bb.out.via hB)
      have Bt := Lib.hid (Bt.out.via hB)
      have R1 := Lib.hid (heap_below hB R1.out)
      have R2 := Lib.hid (heap_below hB R2.out)
      clear hB
      obtain ⟨m0, m1⟩ := cell2 R1.out
      obtain ⟨m2, m3⟩ := cell2b R1.out
      obtain ⟨m4, m5⟩ := cell2 R2.out
      obtain ⟨m6, m7⟩ := cell2b R2.out
      have Bb := Lib.hid (Bb.out.setO (a := .string u1) (b := .string u2) N1.out.2.1)
      have Bt := Lib.hid (Bt.out.setO (a := .string u1) (b := .string u2) N1.out.2.2)
      have HW := Lib.hid (below_set2 HW.out G1.out (.string u1) (.string u2))
      have R2 := Lib.hid ((heap_setCell_other _ ⟨p20, 1, none⟩ _ (.string u2) (by show p21 ≠ p20; exact Ne.symm N2.out.2.2.2)).trans ((heap_setCell_other _ ⟨p20, 0, none⟩ _ (.string u1) (by show p21 ≠ p20; exact Ne.symm N2.out.2.2.2)).trans R2.out))
      have R1 := Lib.hid (want_setO R1.out (.string u1) (.string u2))
      obtain ⟨e0, e1⟩ := Bb.out
      obtain ⟨e2, e3⟩ := Bt.out
      go_wp2_with fail
      clear e0 e1 e2 e3
      clear m0 m1 m2 m3 m4 m5 m6 m7
      generalize ((k20.setCell ⟨p20, 0, none⟩ (.string u1)).setCell ⟨p20, 1, none⟩ (.string u2)) = k22 at *
      refine (HF.out.bm _).mono ?_
      rintro e k21 ⟨rfl, hB⟩
      have HW := Lib.hid (belowVia hB HW.out)
      have Bb := Lib.hid (Bb.out.via hB)
      have Bt := Lib.hid (Bt.out.via hB)
      have R1 := Lib.hid (heap_below hB R1.out)
      have R2 := Lib.hid (heap_below hB R2.out)
      clear hB
      obtain ⟨m0, m1⟩ := cell2 R1.out
      obtain ⟨m2, m3⟩ := cell2b R1.out
      obtain ⟨m4, m5⟩ := cell2 R2.out
      obtain ⟨m6, m7⟩ := cell2b R2.out
      have Bt := Lib.hid (Bt.out.setO (a := .string v1') (b := .string v2') N2.out.2.2.1)
      have HW := Lib.hid (below_set2 HW.out G2.out (.string v1') (.string v2'))
      have R1 := Lib.hid ((heap_setCell_other _ ⟨p21, 1, none⟩ _ (.string v2') (by show p20 ≠ p21; exact N2.out.2.2.2)).trans ((heap_setCell_other _ ⟨p21, 0, none⟩ _ (.string v1') (by show p20 ≠ p21; exact N2.out.2.2.2)).trans R1.out))
      have R2 := Lib.hid (want_setO R2.out (.string v1') (.string v2'))
      go_wp2_with fail
      clear m0 m1 m2 m3 m4 m5 m6 m7
      generalize ((k21.setCell ⟨p21, 0, none⟩ (.string v1')).setCell ⟨p21, 1, none⟩ (.string v2')) = kz at *
      have f0 := (cell2 R1.out).1
      have f1 := (cell2b R1.out).1
      have f2 := (cell2 R2.out).1
      have f3 := (cell2b R2.out).1
      obtain ⟨f4, f5⟩ := Bt.out
      have HUV := Lib.hid HF.out.uv
      have HTZ := Lib.hid HF.out.tz
      have wm : IntKind.i64.wrap (c1 * ct) = m := by rw [← HF.out.prod, IntKind.wrap_i64]; have := HF.out.bm2; omega
      clear HF Bb Bt R1 R2 N1 N2 G1 G2
      go_region_held3 (fun w' => w'.cell? ⟨p20, 0, none⟩ = some (.string u1) ∧ w'.cell? ⟨p20, 1, none⟩ = some (.string u2) ∧ w'.cell? ⟨p21, 0, none⟩ = some (.string v1') ∧ w'.cell? ⟨p21, 1, none⟩ = some (.string v2') ∧ w'.cell? ⟨pt, 0, none⟩ = some (.string nt) ∧ w'.cell? ⟨pt, 1, none⟩ = some (.string dt) ∧ Below kz.heap.size kz w')
        (first | exact ⟨f0, f1, f2, f3, f4, f5, (Below.refl _ _).drew⟩ | exact s7Keep (by assumption) hB3) (first
        | (go_at_call 37; (with_reducible refine (is_q _ _ _).mono ?_); rintro e u3 ⟨rfl, hB3⟩)
        | (go_at_call 17; (with_reducible refine (HUV.out _).mono ?_); rintro e u3 ⟨rfl, hB3⟩)
        | (go_at_call 17; (with_reducible refine (HTZ.out _).mono ?_); rintro e u3 ⟨rfl, hB3⟩))
      all_goals
        have HH : Hid (Below kz.heap.size kz _) := And.right (And.right (And.right (And.right (And.right (And.right (by assumption))))))
        go_wp2_with fail
        go_ret
        exact ⟨rfl, belowVia HH.out HW.out⟩
end Go.Proofs.YtippeffbdjjcfaaGreatDoor
