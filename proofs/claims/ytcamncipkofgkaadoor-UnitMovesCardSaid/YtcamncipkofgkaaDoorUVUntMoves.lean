/- The walk of UnitMoves. -/
import Derived.Test.YtcamncipkofgkaaDoorUM10
import Derived.Test.YtcamncipkofgkaaDoorUV1
import Derived.Test.YtcamncipkofgkaaDoorUT1
namespace Go.Proofs.YtcamncipkofgkaaDoor
open Go.RowKit Go.Shelf Pln Unt
set_option maxRecDepth 100000 in
set_option maxHeartbeats 4000000 in
theorem unitMoves_w (x y : List Pt) (hx : (x.length : Int) ≤ 9223372036854775807) (hy : (y.length : Int) ≤ 9223372036854775807) (how : Int) (hh : I64 how) (a0 a1 a2 a3 : Int) (b0 b1 b2 b3 : Int)
    (ha : I64 a0 ∧ I64 a1 ∧ I64 a2 ∧ I64 a3) (hb : I64 b0 ∧ I64 b1 ∧ I64 b2 ∧ I64 b3) (dx dy : Int) (hdx : I64 dx) (hdy : I64 dy) (vx1 vx2 : Value) (w : World) (h1 : PtsAt w vx1 x) (h2 : PtsAt w vx2 y) (hT : TabU w) :
    Calls Tryd.prog 7 #[vx1, vx2, .int .i64 how, .agg #[.int .i64 a0, .int .i64 a1, .int .i64 a2, .int .i64 a3], .agg #[.int .i64 b0, .int .i64 b1, .int .i64 b2, .int .i64 b3], .int .i64 dx, .int .i64 dy] w fun e w' => e = .returned (.bool true) ∧ Below w.heap.size w w' := by
  have HH := Lib.hid hh
  have HA := Lib.hid ha
  have HA2 := Lib.hid hb
  have HX := Lib.hid hx
  have HDX := Lib.hid hdx
  have HDY := Lib.hid hdy
  clear hdx hdy
  have HY := Lib.hid hy
  have hB0 := alloc_below w (.cells #[.int .i64 a0, .int .i64 a1, .int .i64 a2, .int .i64 a3] 23)
  have hB := belowStep hB0 (alloc_below (w.alloc (.cells #[.int .i64 a0, .int .i64 a1, .int .i64 a2, .int .i64 a3] 23)) (.cells #[.int .i64 b0, .int .i64 b1, .int .i64 b2, .int .i64 b3] 23))
  have HP := Lib.hid (heap_below (alloc_below (w.alloc (.cells #[.int .i64 a0, .int .i64 a1, .int .i64 a2, .int .i64 a3] 23)) (.cells #[.int .i64 b0, .int .i64 b1, .int .i64 b2, .int .i64 b3] 23)) (heap_alloc_new w (.cells #[.int .i64 a0, .int .i64 a1, .int .i64 a2, .int .i64 a3] 23)))
  have HQ := Lib.hid (heap_alloc_new (w.alloc (.cells #[.int .i64 a0, .int .i64 a1, .int .i64 a2, .int .i64 a3] 23)) (.cells #[.int .i64 b0, .int .i64 b1, .int .i64 b2, .int .i64 b3] 23))
  have hsz : (w.alloc (.cells #[.int .i64 a0, .int .i64 a1, .int .i64 a2, .int .i64 a3] 23)).heap.size = w.heap.size + 1 := by simp
  rw [hsz] at HQ
  clear hB0 hsz
  have H1 := Lib.hid (h1.via hB)
  have H2 := Lib.hid (h2.via hB)
  have HT := Lib.hid (hT.via hB)
  have HB := Lib.hid hB
  clear hh ha hx hy h1 h2 hT hB hb
  go_enter Tryd.func7, Tryd.ntmps7
  go_wp2_with fail
  refine (sane8_w _ HT.out).mono ?_
  rintro e w1 ⟨rfl, hB⟩
  have HP1 := heap_below hB HP.out
  have p0 := cell_heap HP1 (i := 0) rfl
  have p1 := cell_heap HP1 (i := 1) rfl
  have p2 := cell_heap HP1 (i := 2) rfl
  have p3 := cell_heap HP1 (i := 3) rfl
  have HQ1 := heap_below hB HQ.out
  have q0 := cell_heap HQ1 (i := 0) rfl
  have q1 := cell_heap HQ1 (i := 1) rfl
  have q2 := cell_heap HQ1 (i := 2) rfl
  have q3 := cell_heap HQ1 (i := 3) rfl
  replace H1 := Lib.hid (H1.out.via hB)
  replace H2 := Lib.hid (H2.out.via hB)
  replace HT := Lib.hid (HT.out.via hB)
  replace HB := Lib.hid (belowStep HB.out hB)
  clear hB HP HP1 HQ HQ1
  go_wp2_with fail
  clear p0 p1 p2 p3 q0 q1 q2 q3
  refine (pair8_w x y HX.out HY.out how HH.out a0 a1 a2 a3 b0 b1 b2 b3 HA.out HA2.out vx1 vx2 _ H1.out H2.out).mono ?_
  rintro e w2 ⟨u, t, r, s, rfl, vu, vt, hu, ht, hB⟩
  replace HT := Lib.hid (HT.out.via hB)
  replace HB := Lib.hid (belowStep HB.out hB)
  have HU := Lib.hid hu
  have VU := Lib.hid vu
  have HV := Lib.hid ht
  have VT := Lib.hid vt
  obtain ⟨ar, cr, rfl⟩ : ∃ a c, r = .slice a u.shape.length c := by obtain ⟨⟨a, c, h, _⟩, _⟩ := hu.at_; exact ⟨a, c, h⟩
  obtain ⟨at1, ct1, rfl⟩ : ∃ a c, s = .slice a t.shape.length c := by obtain ⟨⟨a, c, h, _⟩, _⟩ := ht.at_; exact ⟨a, c, h⟩
  clear hu ht vt vu hB H1 H2 HH HA HX HY HA2
  unfold uv
  go_upto_region 5 with fail
  obtain ⟨v1, hv1⟩ : ∃ v : World, v = (w2.alloc (.cells #[.int .i64 u.id, .int .i64 u.kind, .int .i64 u.mat, .slice ar u.shape.length cr, .int .i64 u.back, .int .i64 u.front] 27)).alloc (.cells #[.int .i64 t.id, .int .i64 t.kind, .int .i64 t.mat, .slice at1 t.shape.length ct1, .int .i64 t.back, .int .i64 t.front] 27) := ⟨_, rfl⟩
  have hB1 : Below w2.heap.size w2 (w2.alloc (.cells #[.int .i64 u.id, .int .i64 u.kind, .int .i64 u.mat, .slice ar u.shape.length cr, .int .i64 u.back, .int .i64 u.front] 27)) := alloc_below _ _
  have hB2 : Below (w2.alloc (.cells #[.int .i64 u.id, .int .i64 u.kind, .int .i64 u.mat, .slice ar u.shape.length cr, .int .i64 u.back, .int .i64 u.front] 27)).heap.size (w2.alloc (.cells #[.int .i64 u.id, .int .i64 u.kind, .int .i64 u.mat, .slice ar u.shape.length cr, .int .i64 u.back, .int .i64 u.front] 27)) v1 := by rw [hv1]; exact alloc_below _ _
  have hs1 : (w2.alloc (.cells #[.int .i64 u.id, .int .i64 u.kind, .int .i64 u.mat, .slice ar u.shape.length cr, .int .i64 u.back, .int .i64 u.front] 27)).heap.size = w2.heap.size + 1 := by simp
  have HX1 : Hid (v1.heap[w2.heap.size]? = some (.cells #[.int .i64 u.id, .int .i64 u.kind, .int .i64 u.mat, .slice ar u.shape.length cr, .int .i64 u.back, .int .i64 u.front] 27 (0, 0))) := Lib.hid (heap_below hB2 (heap_alloc_new w2 (.cells #[.int .i64 u.id, .int .i64 u.kind, .int .i64 u.mat, .slice ar u.shape.length cr, .int .i64 u.back, .int .i64 u.front] 27)))
  have HX2 : Hid (v1.heap[w2.heap.size + 1]? = some (.cells #[.int .i64 t.id, .int .i64 t.kind, .int .i64 t.mat, .slice at1 t.shape.length ct1, .int .i64 t.back, .int .i64 t.front] 27 (0, 0))) := Lib.hid (by rw [← hs1, hv1]; exact heap_alloc_new _ _)
  have HZ : Hid (w2.heap.size + 2 ≤ v1.heap.size) := Lib.hid (by rw [hv1]; simp)
  have hB := belowStep hB1 hB2
  rw [← hv1]
  clear hB1 hB2 hs1 hv1
  replace HU := Lib.hid (HU.out.via hB)
  replace HV := Lib.hid (HV.out.via hB)
  replace HT := Lib.hid (HT.out.via hB)
  replace HB := Lib.hid (belowStep HB.out hB)
  clear hB
  go_wp2_with fail
  refine (pickL8_w dx 13 HDX.out (by omega) (by omega) _).mono ?_
  rintro e wp ⟨rfl, rfl⟩
  have hp := pkN_in (c := dx) (n := 13) (by omega)
  obtain ⟨p, hpp⟩ : ∃ p, p = pkN dx 13 := ⟨_, rfl⟩
  rw [← hpp] at hp ⊢
  clear hpp
  obtain ⟨hp1, hp2⟩ := hp
  go_wp2_with fail
  refine (pickL8_w dy 13 HDY.out (by omega) (by omega) _).mono ?_
  rintro e wp ⟨rfl, rfl⟩
  have hq := pkN_in (c := dy) (n := 13) (by omega)
  obtain ⟨q, hqq⟩ : ∃ q, q = pkN dy 13 := ⟨_, rfl⟩
  rw [← hqq] at hq ⊢
  clear hqq
  obtain ⟨hq1, hq2⟩ := hq
  clear HDX HDY
  have x0 := cell_heap HX1.out (i := 0) rfl
  have x1 := cell_heap HX1.out (i := 1) rfl
  have x2 := cell_heap HX1.out (i := 2) rfl
  have x3 := cell_heap HX1.out (i := 3) rfl
  have x4 := cell_heap HX1.out (i := 4) rfl
  have x5 := cell_heap HX1.out (i := 5) rfl
  go_wp2_with fail
  clear x0 x1 x2 x3 x4 x5
  generalize hX : p - 6 = X
  generalize hY : q - 6 = Y
  have hx1 : -6 ≤ X := by omega
  have hx2 : X ≤ 6 := by omega
  have hy1 : -6 ≤ Y := by omega
  have hy2 : Y ≤ 6 := by omega
  have HIX : Hid (I64 X) := Lib.hid ⟨by omega, by omega⟩
  have HIY : Hid (I64 Y) := Lib.hid ⟨by omega, by omega⟩
  clear hX hY hp1 hp2 hq1 hq2
  rcases hmu : movU u X Y with _ | c
  · rcases hmt : movU t X Y with _ | d
    · have HMU := Lib.hid hmu
      have HMT := Lib.hid hmt
      clear hmu hmt
      have hc := moveU_none HMU.out HIX.out HIY.out _ _ HU.out
      refine hc.mono ?_
      clear hc
      rintro e w3 ⟨rfl, hB⟩
      replace HU := Lib.hid (HU.out.via hB)
      replace HV := Lib.hid (HV.out.via hB)
      replace HT := Lib.hid (HT.out.via hB)
      replace HX1 := Lib.hid (heap_below hB HX1.out)
      replace HX2 := Lib.hid (heap_below hB HX2.out)
      replace HB := Lib.hid (belowStep HB.out hB)
      clear hB
      have hB := alloc_below w3 (.cells #[.int .i64 0, .int .i64 0, .int .i64 0, .slice none 0 0, .int .i64 0, .int .i64 0] 27)
      replace HU := Lib.hid (HU.out.via hB)
      replace HV := Lib.hid (HV.out.via hB)
      replace HT := Lib.hid (HT.out.via hB)
      replace HX1 := Lib.hid (heap_below hB HX1.out)
      replace HX2 := Lib.hid (heap_below hB HX2.out)
      replace HB := Lib.hid (belowStep HB.out hB)
      clear hB
      have y0 := cell_heap HX2.out (i := 0) rfl
      have y1 := cell_heap HX2.out (i := 1) rfl
      have y2 := cell_heap HX2.out (i := 2) rfl
      have y3 := cell_heap HX2.out (i := 3) rfl
      have y4 := cell_heap HX2.out (i := 4) rfl
      have y5 := cell_heap HX2.out (i := 5) rfl
      go_wp2_with fail
      clear y0 y1 y2 y3 y4 y5
      have hc := moveU_none HMT.out HIX.out HIY.out _ _ HV.out
      refine hc.mono ?_
      clear hc
      rintro e w4 ⟨rfl, hB⟩
      replace HU := Lib.hid (HU.out.via hB)
      replace HV := Lib.hid (HV.out.via hB)
      replace HT := Lib.hid (HT.out.via hB)
      replace HX1 := Lib.hid (heap_below hB HX1.out)
      replace HX2 := Lib.hid (heap_below hB HX2.out)
      replace HB := Lib.hid (belowStep HB.out hB)
      clear hB
      have hB := alloc_below w4 (.cells #[.int .i64 0, .int .i64 0, .int .i64 0, .slice none 0 0, .int .i64 0, .int .i64 0] 27)
      replace HU := Lib.hid (HU.out.via hB)
      replace HV := Lib.hid (HV.out.via hB)
      replace HT := Lib.hid (HT.out.via hB)
      replace HX1 := Lib.hid (heap_below hB HX1.out)
      replace HX2 := Lib.hid (heap_below hB HX2.out)
      replace HB := Lib.hid (belowStep HB.out hB)
      clear hB
      have x0 := cell_heap HX1.out (i := 0) rfl
      have x1 := cell_heap HX1.out (i := 1) rfl
      have x2 := cell_heap HX1.out (i := 2) rfl
      have x3 := cell_heap HX1.out (i := 3) rfl
      have x4 := cell_heap HX1.out (i := 4) rfl
      have x5 := cell_heap HX1.out (i := 5) rfl
      go_wp2_with fail
      clear x0 x1 x2 x3 x4 x5
      refine (moveP_none HU.out.ok.len ((mov_none VU.out).1 HMU.out) HIX.out HIY.out _ _ HU.out.at_).mono ?_
      rintro e w5 ⟨ru, rfl, hB⟩
      replace HU := Lib.hid (HU.out.via hB)
      replace HV := Lib.hid (HV.out.via hB)
      replace HT := Lib.hid (HT.out.via hB)
      replace HX1 := Lib.hid (heap_below hB HX1.out)
      replace HX2 := Lib.hid (heap_below hB HX2.out)
      replace HB := Lib.hid (belowStep HB.out hB)
      clear hB
      have x0 := cell_heap HX2.out (i := 0) rfl
      have x1 := cell_heap HX2.out (i := 1) rfl
      have x2 := cell_heap HX2.out (i := 2) rfl
      have x3 := cell_heap HX2.out (i := 3) rfl
      have x4 := cell_heap HX2.out (i := 4) rfl
      have x5 := cell_heap HX2.out (i := 5) rfl
      go_wp2_with fail
      clear x0 x1 x2 x3 x4 x5
      refine (moveP_none HV.out.ok.len ((mov_none VT.out).1 HMT.out) HIX.out HIY.out _ _ HV.out.at_).mono ?_
      rintro e w6 ⟨rt, rfl, hB⟩
      replace HU := Lib.hid (HU.out.via hB)
      replace HV := Lib.hid (HV.out.via hB)
      replace HT := Lib.hid (HT.out.via hB)
      replace HX1 := Lib.hid (heap_below hB HX1.out)
      replace HX2 := Lib.hid (heap_below hB HX2.out)
      replace HB := Lib.hid (belowStep HB.out hB)
      clear hB
      go_wp2_with fail
      go_ret
      exact ⟨rfl, HB.out⟩
    · have HMU := Lib.hid hmu
      have HMT := Lib.hid hmt
      clear hmu hmt
      have hc := moveU_none HMU.out HIX.out HIY.out _ _ HU.out
      refine hc.mono ?_
      clear hc
      rintro e w3 ⟨rfl, hB⟩
      replace HU := Lib.hid (HU.out.via hB)
      replace HV := Lib.hid (HV.out.via hB)
      replace HT := Lib.hid (HT.out.via hB)
      replace HX1 := Lib.hid (heap_below hB HX1.out)
      replace HX2 := Lib.hid (heap_below hB HX2.out)
      replace HB := Lib.hid (belowStep HB.out hB)
      clear hB
      have hB := alloc_below w3 (.cells #[.int .i64 0, .int .i64 0, .int .i64 0, .slice none 0 0, .int .i64 0, .int .i64 0] 27)
      replace HU := Lib.hid (HU.out.via hB)
      replace HV := Lib.hid (HV.out.via hB)
      replace HT := Lib.hid (HT.out.via hB)
      replace HX1 := Lib.hid (heap_below hB HX1.out)
      replace HX2 := Lib.hid (heap_below hB HX2.out)
      replace HB := Lib.hid (belowStep HB.out hB)
      clear hB
      have y0 := cell_heap HX2.out (i := 0) rfl
      have y1 := cell_heap HX2.out (i := 1) rfl
      have y2 := cell_heap HX2.out (i := 2) rfl
      have y3 := cell_heap HX2.out (i := 3) rfl
      have y4 := cell_heap HX2.out (i := 4) rfl
      have y5 := cell_heap HX2.out (i := 5) rfl
      go_wp2_with fail
      clear y0 y1 y2 y3 y4 y5
      have hc := moveU_some VT.out HMT.out HIX.out HIY.out _ _ HV.out
      refine hc.mono ?_
      clear hc
      rintro e w4 ⟨rb, kb, rfl, hm, hB⟩
      replace HU := Lib.hid (HU.out.via hB)
      replace HV := Lib.hid (HV.out.via hB)
      replace HT := Lib.hid (HT.out.via hB)
      replace HX1 := Lib.hid (heap_below hB HX1.out)
      replace HX2 := Lib.hid (heap_below hB HX2.out)
      replace HB := Lib.hid (belowStep HB.out hB)
      clear hB
      have HD := Lib.hid hm
      clear hm
      have hB := alloc_below w4 (.cells #[.int .i64 t.id, .int .i64 t.kind, .int .i64 t.mat, .slice rb t.shape.length kb, .int .i64 t.back, .int .i64 t.front] 27)
      have HX4 := Lib.hid (heap_alloc_new w4 (.cells #[.int .i64 t.id, .int .i64 t.kind, .int .i64 t.mat, .slice rb t.shape.length kb, .int .i64 t.back, .int .i64 t.front] 27))
      replace HU := Lib.hid (HU.out.via hB)
      replace HV := Lib.hid (HV.out.via hB)
      replace HD := Lib.hid (HD.out.via hB)
      replace HT := Lib.hid (HT.out.via hB)
      replace HX1 := Lib.hid (heap_below hB HX1.out)
      replace HX2 := Lib.hid (heap_below hB HX2.out)
      replace HB := Lib.hid (belowStep HB.out hB)
      clear hB
      have x0 := cell_heap HX1.out (i := 0) rfl
      have x1 := cell_heap HX1.out (i := 1) rfl
      have x2 := cell_heap HX1.out (i := 2) rfl
      have x3 := cell_heap HX1.out (i := 3) rfl
      have x4 := cell_heap HX1.out (i := 4) rfl
      have x5 := cell_heap HX1.out (i := 5) rfl
      go_wp2_with fail
      clear x0 x1 x2 x3 x4 x5
      refine (moveP_none HU.out.ok.len ((mov_none VU.out).1 HMU.out) HIX.out HIY.out _ _ HU.out.at_).mono ?_
      rintro e w5 ⟨ru, rfl, hB⟩
      replace HU := Lib.hid (HU.out.via hB)
      replace HV := Lib.hid (HV.out.via hB)
      replace HD := Lib.hid (HD.out.via hB)
      replace HT := Lib.hid (HT.out.via hB)
      replace HX1 := Lib.hid (heap_below hB HX1.out)
      replace HX2 := Lib.hid (heap_below hB HX2.out)
      replace HX4 := Lib.hid (heap_below hB HX4.out)
      replace HB := Lib.hid (belowStep HB.out hB)
      clear hB
      have x0 := cell_heap HX2.out (i := 0) rfl
      have x1 := cell_heap HX2.out (i := 1) rfl
      have x2 := cell_heap HX2.out (i := 2) rfl
      have x3 := cell_heap HX2.out (i := 3) rfl
      have x4 := cell_heap HX2.out (i := 4) rfl
      have x5 := cell_heap HX2.out (i := 5) rfl
      go_wp2_with fail
      clear x0 x1 x2 x3 x4 x5
      refine (moveP_some HV.out.ok.len (mov_shape VT.out HMT.out) HIX.out HIY.out _ _ HV.out.at_).mono ?_
      rintro e w6 ⟨rt, rfl, hB⟩
      replace HU := Lib.hid (HU.out.via hB)
      replace HV := Lib.hid (HV.out.via hB)
      replace HD := Lib.hid (HD.out.via hB)
      replace HT := Lib.hid (HT.out.via hB)
      replace HX1 := Lib.hid (heap_below hB HX1.out)
      replace HX2 := Lib.hid (heap_below hB HX2.out)
      replace HX4 := Lib.hid (heap_below hB HX4.out)
      replace HB := Lib.hid (belowStep HB.out hB)
      clear hB
      go_wp2_with fail
      go_ret
      exact ⟨rfl, HB.out⟩
  · rcases hmt : movU t X Y with _ | d
    · have HMU := Lib.hid hmu
      have HMT := Lib.hid hmt
      clear hmu hmt
      have hc := moveU_some VU.out HMU.out HIX.out HIY.out _ _ HU.out
      refine hc.mono ?_
      clear hc
      rintro e w3 ⟨ra, ka, rfl, hm, hB⟩
      replace HU := Lib.hid (HU.out.via hB)
      replace HV := Lib.hid (HV.out.via hB)
      replace HT := Lib.hid (HT.out.via hB)
      replace HX1 := Lib.hid (heap_below hB HX1.out)
      replace HX2 := Lib.hid (heap_below hB HX2.out)
      replace HB := Lib.hid (belowStep HB.out hB)
      clear hB
      have HC := Lib.hid hm
      clear hm
      have hB := alloc_below w3 (.cells #[.int .i64 u.id, .int .i64 u.kind, .int .i64 u.mat, .slice ra u.shape.length ka, .int .i64 u.back, .int .i64 u.front] 27)
      have HX3 := Lib.hid (heap_alloc_new w3 (.cells #[.int .i64 u.id, .int .i64 u.kind, .int .i64 u.mat, .slice ra u.shape.length ka, .int .i64 u.back, .int .i64 u.front] 27))
      replace HU := Lib.hid (HU.out.via hB)
      replace HV := Lib.hid (HV.out.via hB)
      replace HC := Lib.hid (HC.out.via hB)
      replace HT := Lib.hid (HT.out.via hB)
      replace HX1 := Lib.hid (heap_below hB HX1.out)
      replace HX2 := Lib.hid (heap_below hB HX2.out)
      replace HB := Lib.hid (belowStep HB.out hB)
      clear hB
      have y0 := cell_heap HX2.out (i := 0) rfl
      have y1 := cell_heap HX2.out (i := 1) rfl
      have y2 := cell_heap HX2.out (i := 2) rfl
      have y3 := cell_heap HX2.out (i := 3) rfl
      have y4 := cell_heap HX2.out (i := 4) rfl
      have y5 := cell_heap HX2.out (i := 5) rfl
      go_wp2_with fail
      clear y0 y1 y2 y3 y4 y5
      have hc := moveU_none HMT.out HIX.out HIY.out _ _ HV.out
      refine hc.mono ?_
      clear hc
      rintro e w4 ⟨rfl, hB⟩
      replace HU := Lib.hid (HU.out.via hB)
      replace HV := Lib.hid (HV.out.via hB)
      replace HC := Lib.hid (HC.out.via hB)
      replace HT := Lib.hid (HT.out.via hB)
      replace HX1 := Lib.hid (heap_below hB HX1.out)
      replace HX2 := Lib.hid (heap_below hB HX2.out)
      replace HX3 := Lib.hid (heap_below hB HX3.out)
      replace HB := Lib.hid (belowStep HB.out hB)
      clear hB
      have hB := alloc_below w4 (.cells #[.int .i64 0, .int .i64 0, .int .i64 0, .slice none 0 0, .int .i64 0, .int .i64 0] 27)
      replace HU := Lib.hid (HU.out.via hB)
      replace HV := Lib.hid (HV.out.via hB)
      replace HC := Lib.hid (HC.out.via hB)
      replace HT := Lib.hid (HT.out.via hB)
      replace HX1 := Lib.hid (heap_below hB HX1.out)
      replace HX2 := Lib.hid (heap_below hB HX2.out)
      replace HX3 := Lib.hid (heap_below hB HX3.out)
      replace HB := Lib.hid (belowStep HB.out hB)
      clear hB
      have x0 := cell_heap HX1.out (i := 0) rfl
      have x1 := cell_heap HX1.out (i := 1) rfl
      have x2 := cell_heap HX1.out (i := 2) rfl
      have x3 := cell_heap HX1.out (i := 3) rfl
      have x4 := cell_heap HX1.out (i := 4) rfl
      have x5 := cell_heap HX1.out (i := 5) rfl
      go_wp2_with fail
      clear x0 x1 x2 x3 x4 x5
      refine (moveP_some HU.out.ok.len (mov_shape VU.out HMU.out) HIX.out HIY.out _ _ HU.out.at_).mono ?_
      rintro e w5 ⟨ru, rfl, hB⟩
      replace HU := Lib.hid (HU.out.via hB)
      replace HV := Lib.hid (HV.out.via hB)
      replace HC := Lib.hid (HC.out.via hB)
      replace HT := Lib.hid (HT.out.via hB)
      replace HX1 := Lib.hid (heap_below hB HX1.out)
      replace HX2 := Lib.hid (heap_below hB HX2.out)
      replace HX3 := Lib.hid (heap_below hB HX3.out)
      replace HB := Lib.hid (belowStep HB.out hB)
      clear hB
      have x0 := cell_heap HX2.out (i := 0) rfl
      have x1 := cell_heap HX2.out (i := 1) rfl
      have x2 := cell_heap HX2.out (i := 2) rfl
      have x3 := cell_heap HX2.out (i := 3) rfl
      have x4 := cell_heap HX2.out (i := 4) rfl
      have x5 := cell_heap HX2.out (i := 5) rfl
      go_wp2_with fail
      clear x0 x1 x2 x3 x4 x5
      refine (moveP_none HV.out.ok.len ((mov_none VT.out).1 HMT.out) HIX.out HIY.out _ _ HV.out.at_).mono ?_
      rintro e w6 ⟨rt, rfl, hB⟩
      replace HU := Lib.hid (HU.out.via hB)
      replace HV := Lib.hid (HV.out.via hB)
      replace HC := Lib.hid (HC.out.via hB)
      replace HT := Lib.hid (HT.out.via hB)
      replace HX1 := Lib.hid (heap_below hB HX1.out)
      replace HX2 := Lib.hid (heap_below hB HX2.out)
      replace HX3 := Lib.hid (heap_below hB HX3.out)
      replace HB := Lib.hid (belowStep HB.out hB)
      clear hB
      go_wp2_with fail
      go_ret
      exact ⟨rfl, HB.out⟩
    · rcases ho : touU u t with _ | ⟨⟨P1, P2⟩, ⟨Q1, Q2⟩⟩
      · have HMU := Lib.hid hmu
        have HMT := Lib.hid hmt
        clear hmu hmt
        have VC := Lib.hid (mov_some VU.out HMU.out).2
        have VD := Lib.hid (mov_some VT.out HMT.out).2
        rw [(mov_some VU.out HMU.out).1] at VC
        rw [(mov_some VT.out HMT.out).1] at VD
        have HOV : Hid (overU (mvU u X Y) (mvU t X Y) = overU u t) := Lib.hid (over_mv VU.out VC.out VT.out VD.out)
        have HVO : Hid (volP (mvU u X Y) = volP u) := Lib.hid (vol_mv VU.out VC.out)
        have HWO : Hid (wtP (mvU u X Y) = wtP u) := Lib.hid (wt_mv VU.out VC.out)
        have HMO : Hid (momP (mvU u X Y) = momP u + X * wtP u) := Lib.hid (mom_mv VU.out VC.out)
        have HTM := tou_mv VU.out VC.out VT.out VD.out
        rw [ho] at HTM
        have HE1 : Hid (touV u t = .tuple #[.agg #[.int .i64 0, .int .i64 0, .int .i64 0, .int .i64 0, .int .i64 0, .int .i64 0, .int .i64 0, .int .i64 0], .bool false]) := Lib.hid (by unfold touV; rw [ho]; rfl)
        have HE2 : Hid (touV (mvU u X Y) (mvU t X Y) = .tuple #[.agg #[.int .i64 0, .int .i64 0, .int .i64 0, .int .i64 0, .int .i64 0, .int .i64 0, .int .i64 0, .int .i64 0], .bool false]) := Lib.hid (by unfold touV; rw [HTM]; rfl)
        clear HTM ho
        have hc := moveU_some VU.out HMU.out HIX.out HIY.out _ _ HU.out
        refine hc.mono ?_
        clear hc
        rintro e w3 ⟨ra, ka, rfl, hm, hB⟩
        replace HU := Lib.hid (HU.out.via hB)
        replace HV := Lib.hid (HV.out.via hB)
        replace HT := Lib.hid (HT.out.via hB)
        replace HX1 := Lib.hid (heap_below hB HX1.out)
        replace HX2 := Lib.hid (heap_below hB HX2.out)
        replace HB := Lib.hid (belowStep HB.out hB)
        clear hB
        have HC := Lib.hid hm
        clear hm
        have hB := alloc_below w3 (.cells #[.int .i64 u.id, .int .i64 u.kind, .int .i64 u.mat, .slice ra u.shape.length ka, .int .i64 u.back, .int .i64 u.front] 27)
        have HX3 := Lib.hid (heap_alloc_new w3 (.cells #[.int .i64 u.id, .int .i64 u.kind, .int .i64 u.mat, .slice ra u.shape.length ka, .int .i64 u.back, .int .i64 u.front] 27))
        replace HU := Lib.hid (HU.out.via hB)
        replace HV := Lib.hid (HV.out.via hB)
        replace HC := Lib.hid (HC.out.via hB)
        replace HT := Lib.hid (HT.out.via hB)
        replace HX1 := Lib.hid (heap_below hB HX1.out)
        replace HX2 := Lib.hid (heap_below hB HX2.out)
        replace HB := Lib.hid (belowStep HB.out hB)
        clear hB
        have y0 := cell_heap HX2.out (i := 0) rfl
        have y1 := cell_heap HX2.out (i := 1) rfl
        have y2 := cell_heap HX2.out (i := 2) rfl
        have y3 := cell_heap HX2.out (i := 3) rfl
        have y4 := cell_heap HX2.out (i := 4) rfl
        have y5 := cell_heap HX2.out (i := 5) rfl
        go_wp2_with fail
        clear y0 y1 y2 y3 y4 y5
        have hc := moveU_some VT.out HMT.out HIX.out HIY.out _ _ HV.out
        refine hc.mono ?_
        clear hc
        rintro e w4 ⟨rb, kb, rfl, hm, hB⟩
        replace HU := Lib.hid (HU.out.via hB)
        replace HV := Lib.hid (HV.out.via hB)
        replace HC := Lib.hid (HC.out.via hB)
        replace HT := Lib.hid (HT.out.via hB)
        replace HX1 := Lib.hid (heap_below hB HX1.out)
        replace HX2 := Lib.hid (heap_below hB HX2.out)
        replace HX3 := Lib.hid (heap_below hB HX3.out)
        replace HB := Lib.hid (belowStep HB.out hB)
        clear hB
        have HD := Lib.hid hm
        clear hm
        have hB := alloc_below w4 (.cells #[.int .i64 t.id, .int .i64 t.kind, .int .i64 t.mat, .slice rb t.shape.length kb, .int .i64 t.back, .int .i64 t.front] 27)
        have HX4 := Lib.hid (heap_alloc_new w4 (.cells #[.int .i64 t.id, .int .i64 t.kind, .int .i64 t.mat, .slice rb t.shape.length kb, .int .i64 t.back, .int .i64 t.front] 27))
        replace HU := Lib.hid (HU.out.via hB)
        replace HV := Lib.hid (HV.out.via hB)
        replace HC := Lib.hid (HC.out.via hB)
        replace HD := Lib.hid (HD.out.via hB)
        replace HT := Lib.hid (HT.out.via hB)
        replace HX1 := Lib.hid (heap_below hB HX1.out)
        replace HX2 := Lib.hid (heap_below hB HX2.out)
        replace HX3 := Lib.hid (heap_below hB HX3.out)
        replace HB := Lib.hid (belowStep HB.out hB)
        clear hB
        have x0 := cell_heap HX1.out (i := 0) rfl
        have x1 := cell_heap HX1.out (i := 1) rfl
        have x2 := cell_heap HX1.out (i := 2) rfl
        have x3 := cell_heap HX1.out (i := 3) rfl
        have x4 := cell_heap HX1.out (i := 4) rfl
        have x5 := cell_heap HX1.out (i := 5) rfl
        have y0 := cell_heap HX2.out (i := 0) rfl
        have y1 := cell_heap HX2.out (i := 1) rfl
        have y2 := cell_heap HX2.out (i := 2) rfl
        have y3 := cell_heap HX2.out (i := 3) rfl
        have y4 := cell_heap HX2.out (i := 4) rfl
        have y5 := cell_heap HX2.out (i := 5) rfl
        go_wp2_with fail
        clear x0 x1 x2 x3 x4 x5
        clear y0 y1 y2 y3 y4 y5
        have hc := touch_w u t _ _ _ HU.out HV.out
        rw [HE1.out] at hc
        refine hc.mono ?_
        clear hc
        rintro e w5 ⟨rfl, hB⟩
        replace HU := Lib.hid (HU.out.via hB)
        replace HV := Lib.hid (HV.out.via hB)
        replace HC := Lib.hid (HC.out.via hB)
        replace HD := Lib.hid (HD.out.via hB)
        replace HT := Lib.hid (HT.out.via hB)
        replace HX1 := Lib.hid (heap_below hB HX1.out)
        replace HX2 := Lib.hid (heap_below hB HX2.out)
        replace HX3 := Lib.hid (heap_below hB HX3.out)
        replace HX4 := Lib.hid (heap_below hB HX4.out)
        replace HB := Lib.hid (belowStep HB.out hB)
        clear hB
        have SHU := HU
        have SHV := HV
        have SHC := HC
        have SHD := HD
        have SHT := HT
        have SHX1 := HX1
        have SHX2 := HX2
        have SHX3 := HX3
        have SHX4 := HX4
        have SHB := HB
        have HB5 := Lib.hid (Below.refl w5.heap.size w5)
        have hB := alloc_below w5 (.cells #[.int .i64 0, .int .i64 0, .int .i64 0, .int .i64 0, .int .i64 0, .int .i64 0, .int .i64 0, .int .i64 0] 42)
        have HX5 := Lib.hid (heap_alloc_new w5 (.cells #[.int .i64 0, .int .i64 0, .int .i64 0, .int .i64 0, .int .i64 0, .int .i64 0, .int .i64 0, .int .i64 0] 42))
        replace HU := Lib.hid (HU.out.via hB)
        replace HV := Lib.hid (HV.out.via hB)
        replace HC := Lib.hid (HC.out.via hB)
        replace HD := Lib.hid (HD.out.via hB)
        replace HT := Lib.hid (HT.out.via hB)
        replace HX1 := Lib.hid (heap_below hB HX1.out)
        replace HX2 := Lib.hid (heap_below hB HX2.out)
        replace HX3 := Lib.hid (heap_below hB HX3.out)
        replace HX4 := Lib.hid (heap_below hB HX4.out)
        replace HB := Lib.hid (belowStep HB.out hB)
        replace HB5 := Lib.hid (belowStep HB5.out hB)
        clear hB
        have x0 := cell_heap HX3.out (i := 0) rfl
        have x1 := cell_heap HX3.out (i := 1) rfl
        have x2 := cell_heap HX3.out (i := 2) rfl
        have x3 := cell_heap HX3.out (i := 3) rfl
        have x4 := cell_heap HX3.out (i := 4) rfl
        have x5 := cell_heap HX3.out (i := 5) rfl
        have y0 := cell_heap HX4.out (i := 0) rfl
        have y1 := cell_heap HX4.out (i := 1) rfl
        have y2 := cell_heap HX4.out (i := 2) rfl
        have y3 := cell_heap HX4.out (i := 3) rfl
        have y4 := cell_heap HX4.out (i := 4) rfl
        have y5 := cell_heap HX4.out (i := 5) rfl
        go_wp2_with fail
        clear x0 x1 x2 x3 x4 x5
        clear y0 y1 y2 y3 y4 y5
        have hc := touch_w (mvU u X Y) (mvU t X Y) _ _ _ HC.out HD.out
        rw [HE2.out] at hc
        refine hc.mono ?_
        clear hc
        rintro e w6 ⟨rfl, hB⟩
        replace HU := Lib.hid (HU.out.via hB)
        replace HV := Lib.hid (HV.out.via hB)
        replace HC := Lib.hid (HC.out.via hB)
        replace HD := Lib.hid (HD.out.via hB)
        replace HT := Lib.hid (HT.out.via hB)
        replace HX1 := Lib.hid (heap_below hB HX1.out)
        replace HX2 := Lib.hid (heap_below hB HX2.out)
        replace HX3 := Lib.hid (heap_below hB HX3.out)
        replace HX4 := Lib.hid (heap_below hB HX4.out)
        replace HX5 := Lib.hid (heap_below hB HX5.out)
        replace HB := Lib.hid (belowStep HB.out hB)
        replace HB5 := Lib.hid (belowStep HB5.out hB)
        clear hB
        have HZ6 : Hid (w5.heap.size < w6.heap.size) := Lib.hid (lt_of_cell (cell_heap HX5.out (i := 0) rfl))
        have hB := alloc_below w6 (.cells #[.int .i64 0, .int .i64 0, .int .i64 0, .int .i64 0, .int .i64 0, .int .i64 0, .int .i64 0, .int .i64 0] 42)
        have HX6 := Lib.hid (heap_alloc_new w6 (.cells #[.int .i64 0, .int .i64 0, .int .i64 0, .int .i64 0, .int .i64 0, .int .i64 0, .int .i64 0, .int .i64 0] 42))
        replace HU := Lib.hid (HU.out.via hB)
        replace HV := Lib.hid (HV.out.via hB)
        replace HC := Lib.hid (HC.out.via hB)
        replace HD := Lib.hid (HD.out.via hB)
        replace HT := Lib.hid (HT.out.via hB)
        replace HX1 := Lib.hid (heap_below hB HX1.out)
        replace HX2 := Lib.hid (heap_below hB HX2.out)
        replace HX3 := Lib.hid (heap_below hB HX3.out)
        replace HX4 := Lib.hid (heap_below hB HX4.out)
        replace HX5 := Lib.hid (heap_below hB HX5.out)
        replace HB := Lib.hid (belowStep HB.out hB)
        replace HB5 := Lib.hid (belowStep HB5.out hB)
        clear hB
        have x0 := cell_heap HX3.out (i := 0) rfl
        have x1 := cell_heap HX3.out (i := 1) rfl
        have x2 := cell_heap HX3.out (i := 2) rfl
        have x3 := cell_heap HX3.out (i := 3) rfl
        have x4 := cell_heap HX3.out (i := 4) rfl
        have x5 := cell_heap HX3.out (i := 5) rfl
        go_wp2_with fail
        clear x0 x1 x2 x3 x4 x5
        have hc := moveU_back VU.out VC.out ⟨by omega, by omega⟩ ⟨by omega, by omega⟩ _ _ HC.out
        refine hc.mono ?_
        clear hc
        rintro e w7 ⟨rc, kc, rfl, hm, hB⟩
        replace HU := Lib.hid (HU.out.via hB)
        replace HV := Lib.hid (HV.out.via hB)
        replace HC := Lib.hid (HC.out.via hB)
        replace HD := Lib.hid (HD.out.via hB)
        replace HT := Lib.hid (HT.out.via hB)
        replace HX1 := Lib.hid (heap_below hB HX1.out)
        replace HX2 := Lib.hid (heap_below hB HX2.out)
        replace HX3 := Lib.hid (heap_below hB HX3.out)
        replace HX4 := Lib.hid (heap_below hB HX4.out)
        replace HX5 := Lib.hid (heap_below hB HX5.out)
        replace HX6 := Lib.hid (heap_below hB HX6.out)
        replace HB := Lib.hid (belowStep HB.out hB)
        clear hB
        have HK := Lib.hid hm
        clear hm
        have hB := alloc_below w7 (.cells #[.int .i64 u.id, .int .i64 u.kind, .int .i64 u.mat, .slice rc u.shape.length kc, .int .i64 u.back, .int .i64 u.front] 27)
        have HX7 := Lib.hid (heap_alloc_new w7 (.cells #[.int .i64 u.id, .int .i64 u.kind, .int .i64 u.mat, .slice rc u.shape.length kc, .int .i64 u.back, .int .i64 u.front] 27))
        replace HU := Lib.hid (HU.out.via hB)
        replace HV := Lib.hid (HV.out.via hB)
        replace HC := Lib.hid (HC.out.via hB)
        replace HD := Lib.hid (HD.out.via hB)
        replace HK := Lib.hid (HK.out.via hB)
        replace HT := Lib.hid (HT.out.via hB)
        replace HX1 := Lib.hid (heap_below hB HX1.out)
        replace HX2 := Lib.hid (heap_below hB HX2.out)
        replace HX3 := Lib.hid (heap_below hB HX3.out)
        replace HX4 := Lib.hid (heap_below hB HX4.out)
        replace HX5 := Lib.hid (heap_below hB HX5.out)
        replace HX6 := Lib.hid (heap_below hB HX6.out)
        replace HB := Lib.hid (belowStep HB.out hB)
        clear hB
        go_upto_region 18 with fail
        refine (wpIn_wide (n := 5)).1 ?_
        refine wpIn_region_T (fun w' => Below (w7.alloc (.cells #[.int .i64 u.id, .int .i64 u.kind, .int .i64 u.mat, .slice rc u.shape.length kc, .int .i64 u.back, .int .i64 u.front] 27)).drew.heap.size (w7.alloc (.cells #[.int .i64 u.id, .int .i64 u.kind, .int .i64 u.mat, .slice rc u.shape.length kc, .int .i64 u.back, .int .i64 u.front] 27)).drew w') 52 (by kernel_rfl) ?_
        have hB : Below (w7.alloc (.cells #[.int .i64 u.id, .int .i64 u.kind, .int .i64 u.mat, .slice rc u.shape.length kc, .int .i64 u.back, .int .i64 u.front] 27)).heap.size (w7.alloc (.cells #[.int .i64 u.id, .int .i64 u.kind, .int .i64 u.mat, .slice rc u.shape.length kc, .int .i64 u.back, .int .i64 u.front] 27)) (w7.alloc (.cells #[.int .i64 u.id, .int .i64 u.kind, .int .i64 u.mat, .slice rc u.shape.length kc, .int .i64 u.back, .int .i64 u.front] 27)).drew := (Below.refl _ _).drew
        obtain ⟨wd, hwd⟩ : ∃ v : World, v = (w7.alloc (.cells #[.int .i64 u.id, .int .i64 u.kind, .int .i64 u.mat, .slice rc u.shape.length kc, .int .i64 u.back, .int .i64 u.front] 27)).drew := ⟨_, rfl⟩
        rw [← hwd] at hB ⊢
        clear hwd
        replace HU := Lib.hid (HU.out.via hB)
        replace HV := Lib.hid (HV.out.via hB)
        replace HC := Lib.hid (HC.out.via hB)
        replace HD := Lib.hid (HD.out.via hB)
        replace HK := Lib.hid (HK.out.via hB)
        replace HT := Lib.hid (HT.out.via hB)
        replace HX1 := Lib.hid (heap_below hB HX1.out)
        replace HX2 := Lib.hid (heap_below hB HX2.out)
        replace HX3 := Lib.hid (heap_below hB HX3.out)
        replace HX4 := Lib.hid (heap_below hB HX4.out)
        replace HX5 := Lib.hid (heap_below hB HX5.out)
        replace HX6 := Lib.hid (heap_below hB HX6.out)
        replace HX7 := Lib.hid (heap_below hB HX7.out)
        replace HB := Lib.hid (belowStep HB.out hB)
        clear hB
        have x0 := cell_heap HX1.out (i := 0) rfl
        have x1 := cell_heap HX1.out (i := 1) rfl
        have x2 := cell_heap HX1.out (i := 2) rfl
        have x3 := cell_heap HX1.out (i := 3) rfl
        have x4 := cell_heap HX1.out (i := 4) rfl
        have x5 := cell_heap HX1.out (i := 5) rfl
        have y0 := cell_heap HX2.out (i := 0) rfl
        have y1 := cell_heap HX2.out (i := 1) rfl
        have y2 := cell_heap HX2.out (i := 2) rfl
        have y3 := cell_heap HX2.out (i := 3) rfl
        have y4 := cell_heap HX2.out (i := 4) rfl
        have y5 := cell_heap HX2.out (i := 5) rfl
        have z0 := cell_heap HX3.out (i := 0) rfl
        have z1 := cell_heap HX3.out (i := 1) rfl
        have z2 := cell_heap HX3.out (i := 2) rfl
        have z3 := cell_heap HX3.out (i := 3) rfl
        have z4 := cell_heap HX3.out (i := 4) rfl
        have z5 := cell_heap HX3.out (i := 5) rfl
        have v0 := cell_heap HX4.out (i := 0) rfl
        have v1 := cell_heap HX4.out (i := 1) rfl
        have v2 := cell_heap HX4.out (i := 2) rfl
        have v3 := cell_heap HX4.out (i := 3) rfl
        have v4 := cell_heap HX4.out (i := 4) rfl
        have v5 := cell_heap HX4.out (i := 5) rfl
        have k0 := cell_heap HX7.out (i := 0) rfl
        have k1 := cell_heap HX7.out (i := 1) rfl
        have k2 := cell_heap HX7.out (i := 2) rfl
        have k3 := cell_heap HX7.out (i := 3) rfl
        have k4 := cell_heap HX7.out (i := 4) rfl
        have k5 := cell_heap HX7.out (i := 5) rfl
        have m0 := cell_heap HX5.out (i := 0) rfl
        have m1 := cell_heap HX5.out (i := 1) rfl
        have m2 := cell_heap HX5.out (i := 2) rfl
        have m3 := cell_heap HX5.out (i := 3) rfl
        have m4 := cell_heap HX5.out (i := 4) rfl
        have m5 := cell_heap HX5.out (i := 5) rfl
        have m6 := cell_heap HX5.out (i := 6) rfl
        have m7 := cell_heap HX5.out (i := 7) rfl
        have n0 := cell_heap HX6.out (i := 0) rfl
        have n1 := cell_heap HX6.out (i := 1) rfl
        have n2 := cell_heap HX6.out (i := 2) rfl
        have n3 := cell_heap HX6.out (i := 3) rfl
        have n4 := cell_heap HX6.out (i := 4) rfl
        have n5 := cell_heap HX6.out (i := 5) rfl
        have n6 := cell_heap HX6.out (i := 6) rfl
        have n7 := cell_heap HX6.out (i := 7) rfl
        refine wpT_tk 0 150 (v := ?_) (Below.refl _ _) rfl rfl (by rfl) (hy := fun w hw => ?_) (h := ?_)
        rotate_left
        · go_simp; with_reducible rfl
        try simp only [Act.put, List.setIfInBounds_toArray, List.set_cons_zero, List.set_cons_succ]
        refine wpT_tk 1 151 (v := ?_) (Below.refl _ _) rfl rfl (by rfl) (hy := fun w hw => ?_) (h := ?_)
        rotate_left
        · go_simp; with_reducible rfl
        try simp only [Act.put, List.setIfInBounds_toArray, List.set_cons_zero, List.set_cons_succ]
        refine wpT_tk 2 152 (v := ?_) (Below.refl _ _) rfl rfl (by rfl) (hy := fun w hw => ?_) (h := ?_)
        rotate_left
        · go_simp; with_reducible rfl
        try simp only [Act.put, List.setIfInBounds_toArray, List.set_cons_zero, List.set_cons_succ]
        refine wpT_tk 3 153 (v := ?_) (Below.refl _ _) rfl rfl (by rfl) (hy := fun w hw => ?_) (h := ?_)
        rotate_left
        · have k0 := keptBelow hw k0; have k1 := keptBelow hw k1; have k2 := keptBelow hw k2; have k3 := keptBelow hw k3; have k4 := keptBelow hw k4; have k5 := keptBelow hw k5; go_simp; with_reducible rfl
        try simp only [Act.put, List.setIfInBounds_toArray, List.set_cons_zero, List.set_cons_succ]
        refine wpT_tk 4 154 (v := ?_) (Below.refl _ _) rfl rfl (by rfl) (hy := fun w hw => ?_) (h := ?_)
        rotate_left
        · have x0 := keptBelow hw x0; have x1 := keptBelow hw x1; have x2 := keptBelow hw x2; have x3 := keptBelow hw x3; have x4 := keptBelow hw x4; have x5 := keptBelow hw x5; go_simp; with_reducible rfl
        try simp only [Act.put, List.setIfInBounds_toArray, List.set_cons_zero, List.set_cons_succ]
        have HSM : Hid (sameU u u = true) := Lib.hid ((sameU_iff _ _).2 rfl)
        refine wpT_oneW 5 rfl (by rfl) (by kernel_rfl) ?_
        go_simp
        refine ⟨trivial, ?_⟩
        have hc := sameU_w u u _ _ _ HK.out HU.out
        rw [HSM.out] at hc
        refine (callsIn_wide.2 hc).mono ?_
        clear hc
        rintro e y1w ⟨rfl, hB⟩
        have hS := hB
        clear hB
        refine ⟨hS, ?_⟩
        refine wpT_tk 6 156 (v := ?_) hS rfl rfl (by rfl) (hy := fun w hw => ?_) (h := ?_)
        rotate_left
        · go_simp; with_reducible rfl
        try simp only [Act.put, List.setIfInBounds_toArray, List.set_cons_zero, List.set_cons_succ]
        refine wpT_tk 7 157 (v := ?_) hS rfl rfl (by rfl) (hy := fun w hw => ?_) (h := ?_)
        rotate_left
        · go_simp; with_reducible rfl
        try simp only [Act.put, List.setIfInBounds_toArray, List.set_cons_zero, List.set_cons_succ]
        refine wpT_tk 8 158 (v := ?_) hS rfl rfl (by rfl) (hy := fun w hw => ?_) (h := ?_)
        rotate_left
        · have z0 := keptBelow hw z0; have z1 := keptBelow hw z1; have z2 := keptBelow hw z2; have z3 := keptBelow hw z3; have z4 := keptBelow hw z4; have z5 := keptBelow hw z5; go_simp; with_reducible rfl
        try simp only [Act.put, List.setIfInBounds_toArray, List.set_cons_zero, List.set_cons_succ]
        refine wpT_tk 10 160 (v := ?_) hS rfl rfl (by rfl) (hy := fun w hw => ?_) (h := ?_)
        rotate_left
        · have x0 := keptBelow hw x0; have x1 := keptBelow hw x1; have x2 := keptBelow hw x2; have x3 := keptBelow hw x3; have x4 := keptBelow hw x4; have x5 := keptBelow hw x5; go_simp; with_reducible rfl
        try simp only [Act.put, List.setIfInBounds_toArray, List.set_cons_zero, List.set_cons_succ]
        refine wpT_oneW 9 rfl (by rfl) (by kernel_rfl) ?_
        go_simp
        refine ⟨trivial, ?_⟩
        have hc := volume_w (mvU u X Y) _ _ (HC.out.via hS)
        rw [HVO.out] at hc
        refine (callsIn_wide.2 hc).mono ?_
        clear hc
        rintro e y2w ⟨rfl, hB⟩
        replace hS := belowStep hS hB
        clear hB
        refine ⟨hS, ?_⟩
        refine wpT_oneW 11 rfl (by rfl) (by kernel_rfl) ?_
        go_simp
        refine ⟨trivial, ?_⟩
        have hc := volume_w u _ _ (HU.out.via hS)
        refine (callsIn_wide.2 hc).mono ?_
        clear hc
        rintro e y3w ⟨rfl, hB⟩
        replace hS := belowStep hS hB
        clear hB
        refine ⟨hS, ?_⟩
        refine wpT_tk 12 162 (v := ?_) hS rfl rfl (by rfl) (hy := fun w hw => ?_) (h := ?_)
        rotate_left
        · go_simp; with_reducible rfl
        try simp only [Act.put, List.setIfInBounds_toArray, List.set_cons_zero, List.set_cons_succ]
        refine wpT_tk 13 163 (v := ?_) hS rfl rfl (by rfl) (hy := fun w hw => ?_) (h := ?_)
        rotate_left
        · go_simp; with_reducible rfl
        try simp only [Act.put, List.setIfInBounds_toArray, List.set_cons_zero, List.set_cons_succ]
        refine wpT_tk 14 164 (v := ?_) hS rfl rfl (by rfl) (hy := fun w hw => ?_) (h := ?_)
        rotate_left
        · go_simp; with_reducible rfl
        try simp only [Act.put, List.setIfInBounds_toArray, List.set_cons_zero, List.set_cons_succ]
        refine wpT_tk 15 165 (v := ?_) hS rfl rfl (by rfl) (hy := fun w hw => ?_) (h := ?_)
        rotate_left
        · have z0 := keptBelow hw z0; have z1 := keptBelow hw z1; have z2 := keptBelow hw z2; have z3 := keptBelow hw z3; have z4 := keptBelow hw z4; have z5 := keptBelow hw z5; go_simp; with_reducible rfl
        try simp only [Act.put, List.setIfInBounds_toArray, List.set_cons_zero, List.set_cons_succ]
        refine wpT_tk 17 167 (v := ?_) hS rfl rfl (by rfl) (hy := fun w hw => ?_) (h := ?_)
        rotate_left
        · have x0 := keptBelow hw x0; have x1 := keptBelow hw x1; have x2 := keptBelow hw x2; have x3 := keptBelow hw x3; have x4 := keptBelow hw x4; have x5 := keptBelow hw x5; go_simp; with_reducible rfl
        try simp only [Act.put, List.setIfInBounds_toArray, List.set_cons_zero, List.set_cons_succ]
        refine wpT_oneW 16 rfl (by rfl) (by kernel_rfl) ?_
        go_simp
        refine ⟨trivial, ?_⟩
        have hc := weight_w (mvU u X Y) _ _ (HC.out.via hS) (HT.out.via hS)
        rw [HWO.out] at hc
        refine (callsIn_wide.2 hc).mono ?_
        clear hc
        rintro e y4w ⟨rfl, hB⟩
        replace hS := belowStep hS hB
        clear hB
        refine ⟨hS, ?_⟩
        refine wpT_oneW 18 rfl (by rfl) (by kernel_rfl) ?_
        go_simp
        refine ⟨trivial, ?_⟩
        have hc := weight_w u _ _ (HU.out.via hS) (HT.out.via hS)
        refine (callsIn_wide.2 hc).mono ?_
        clear hc
        rintro e y5w ⟨rfl, hB⟩
        replace hS := belowStep hS hB
        clear hB
        refine ⟨hS, ?_⟩
        refine wpT_tk 19 169 (v := ?_) hS rfl rfl (by rfl) (hy := fun w hw => ?_) (h := ?_)
        rotate_left
        · go_simp; with_reducible rfl
        try simp only [Act.put, List.setIfInBounds_toArray, List.set_cons_zero, List.set_cons_succ]
        refine wpT_tk 20 170 (v := ?_) hS rfl rfl (by rfl) (hy := fun w hw => ?_) (h := ?_)
        rotate_left
        · go_simp; with_reducible rfl
        try simp only [Act.put, List.setIfInBounds_toArray, List.set_cons_zero, List.set_cons_succ]
        refine wpT_tk 21 171 (v := ?_) hS rfl rfl (by rfl) (hy := fun w hw => ?_) (h := ?_)
        rotate_left
        · go_simp; with_reducible rfl
        try simp only [Act.put, List.setIfInBounds_toArray, List.set_cons_zero, List.set_cons_succ]
        refine wpT_tk 22 172 (v := ?_) hS rfl rfl (by rfl) (hy := fun w hw => ?_) (h := ?_)
        rotate_left
        · have z0 := keptBelow hw z0; have z1 := keptBelow hw z1; have z2 := keptBelow hw z2; have z3 := keptBelow hw z3; have z4 := keptBelow hw z4; have z5 := keptBelow hw z5; go_simp; with_reducible rfl
        try simp only [Act.put, List.setIfInBounds_toArray, List.set_cons_zero, List.set_cons_succ]
        refine wpT_tk 24 174 (v := ?_) hS rfl rfl (by rfl) (hy := fun w hw => ?_) (h := ?_)
        rotate_left
        · have x0 := keptBelow hw x0; have x1 := keptBelow hw x1; have x2 := keptBelow hw x2; have x3 := keptBelow hw x3; have x4 := keptBelow hw x4; have x5 := keptBelow hw x5; go_simp; with_reducible rfl
        try simp only [Act.put, List.setIfInBounds_toArray, List.set_cons_zero, List.set_cons_succ]
        refine wpT_tk 26 176 (v := ?_) hS rfl rfl (by rfl) (hy := fun w hw => ?_) (h := ?_)
        rotate_left
        · go_simp; with_reducible rfl
        try simp only [Act.put, List.setIfInBounds_toArray, List.set_cons_zero, List.set_cons_succ]
        refine wpT_tk 27 177 (v := ?_) hS rfl rfl (by rfl) (hy := fun w hw => ?_) (h := ?_)
        rotate_left
        · have x0 := keptBelow hw x0; have x1 := keptBelow hw x1; have x2 := keptBelow hw x2; have x3 := keptBelow hw x3; have x4 := keptBelow hw x4; have x5 := keptBelow hw x5; go_simp; with_reducible rfl
        try simp only [Act.put, List.setIfInBounds_toArray, List.set_cons_zero, List.set_cons_succ]
        refine wpT_oneW 23 rfl (by rfl) (by kernel_rfl) ?_
        go_simp
        refine ⟨trivial, ?_⟩
        have hc := moment_w (mvU u X Y) _ _ (HC.out.via hS) (HT.out.via hS)
        rw [HMO.out] at hc
        refine (callsIn_wide.2 hc).mono ?_
        clear hc
        rintro e y6w ⟨rfl, hB⟩
        replace hS := belowStep hS hB
        clear hB
        refine ⟨hS, ?_⟩
        refine wpT_oneW 25 rfl (by rfl) (by kernel_rfl) ?_
        go_simp
        refine ⟨trivial, ?_⟩
        have hc := moment_w u _ _ (HU.out.via hS) (HT.out.via hS)
        refine (callsIn_wide.2 hc).mono ?_
        clear hc
        rintro e y7w ⟨rfl, hB⟩
        replace hS := belowStep hS hB
        clear hB
        refine ⟨hS, ?_⟩
        refine wpT_oneW 28 rfl (by rfl) (by kernel_rfl) ?_
        go_simp
        refine ⟨trivial, ?_⟩
        have hc := weight_w u _ _ (HU.out.via hS) (HT.out.via hS)
        refine (callsIn_wide.2 hc).mono ?_
        clear hc
        rintro e y8w ⟨rfl, hB⟩
        replace hS := belowStep hS hB
        clear hB
        refine ⟨hS, ?_⟩
        have g1 := wt_in VU.out
        have g2 := mom_in VU.out
        have g3 := mul_bd3 (x := X) (n := wtP u) (M := 6) (N := 1000000000000) hx1 hx2 (by omega) g1.2 (by omega)
        have e1 : IntKind.i64.wrap (X * wtP u) = X * wtP u := IntWalk.i64_in _ (by omega)
        have e2 : IntKind.i64.wrap (momP u + X * wtP u) = momP u + X * wtP u := IntWalk.i64_in _ (by omega)
        clear g1 g2 g3
        refine wpT_tk 29 179 (v := ?_) hS rfl rfl (by rfl) (hy := fun w hw => ?_) (h := ?_)
        rotate_left
        · go_simp; with_reducible rfl
        try simp only [Act.put, List.setIfInBounds_toArray, List.set_cons_zero, List.set_cons_succ]
        refine wpT_tk 30 180 (v := ?_) hS rfl rfl (by rfl) (hy := fun w hw => ?_) (h := ?_)
        rotate_left
        · go_simp; with_reducible rfl
        try simp only [Act.put, List.setIfInBounds_toArray, List.set_cons_zero, List.set_cons_succ]
        refine wpT_tk 31 181 (v := ?_) hS rfl rfl (by rfl) (hy := fun w hw => ?_) (h := ?_)
        rotate_left
        · go_simp; with_reducible rfl
        try simp only [Act.put, List.setIfInBounds_toArray, List.set_cons_zero, List.set_cons_succ]
        refine wpT_tk 32 182 (v := ?_) hS rfl rfl (by rfl) (hy := fun w hw => ?_) (h := ?_)
        rotate_left
        · go_simp; with_reducible rfl
        try simp only [Act.put, List.setIfInBounds_toArray, List.set_cons_zero, List.set_cons_succ]
        refine wpT_tk 33 183 (v := ?_) hS rfl rfl (by rfl) (hy := fun w hw => ?_) (h := ?_)
        rotate_left
        · go_simp; with_reducible rfl
        try simp only [Act.put, List.setIfInBounds_toArray, List.set_cons_zero, List.set_cons_succ]
        refine wpT_tk 34 184 (v := ?_) hS rfl rfl (by rfl) (hy := fun w hw => ?_) (h := ?_)
        rotate_left
        · go_simp; with_reducible rfl
        try simp only [Act.put, List.setIfInBounds_toArray, List.set_cons_zero, List.set_cons_succ]
        refine wpT_tk 35 185 (v := ?_) hS rfl rfl (by rfl) (hy := fun w hw => ?_) (h := ?_)
        rotate_left
        · go_simp; with_reducible rfl
        try simp only [Act.put, List.setIfInBounds_toArray, List.set_cons_zero, List.set_cons_succ]
        refine wpT_tk 36 186 (v := ?_) hS rfl rfl (by rfl) (hy := fun w hw => ?_) (h := ?_)
        rotate_left
        · go_simp; with_reducible rfl
        try simp only [Act.put, List.setIfInBounds_toArray, List.set_cons_zero, List.set_cons_succ]
        refine wpT_tk 37 187 (v := ?_) hS rfl rfl (by rfl) (hy := fun w hw => ?_) (h := ?_)
        rotate_left
        · go_simp; with_reducible rfl
        try simp only [Act.put, List.setIfInBounds_toArray, List.set_cons_zero, List.set_cons_succ]
        refine wpT_tk 38 188 (v := ?_) hS rfl rfl (by rfl) (hy := fun w hw => ?_) (h := ?_)
        rotate_left
        · go_simp; with_reducible rfl
        try simp only [Act.put, List.setIfInBounds_toArray, List.set_cons_zero, List.set_cons_succ]
        refine wpT_tk 39 189 (v := ?_) hS rfl rfl (by rfl) (hy := fun w hw => ?_) (h := ?_)
        rotate_left
        · have m0 := keptBelow hw m0; have m1 := keptBelow hw m1; have m2 := keptBelow hw m2; have m3 := keptBelow hw m3; have m4 := keptBelow hw m4; have m5 := keptBelow hw m5; have m6 := keptBelow hw m6; have m7 := keptBelow hw m7; go_simp; with_reducible rfl
        try simp only [Act.put, List.setIfInBounds_toArray, List.set_cons_zero, List.set_cons_succ]
        refine wpT_tk 40 190 (v := ?_) hS rfl rfl (by rfl) (hy := fun w hw => ?_) (h := ?_)
        rotate_left
        · have n0 := keptBelow hw n0; have n1 := keptBelow hw n1; have n2 := keptBelow hw n2; have n3 := keptBelow hw n3; have n4 := keptBelow hw n4; have n5 := keptBelow hw n5; have n6 := keptBelow hw n6; have n7 := keptBelow hw n7; go_simp; with_reducible rfl
        try simp only [Act.put, List.setIfInBounds_toArray, List.set_cons_zero, List.set_cons_succ]
        refine wpT_tk 41 191 (v := ?_) hS rfl rfl (by rfl) (hy := fun w hw => ?_) (h := ?_)
        rotate_left
        · go_simp; with_reducible rfl
        try simp only [Act.put, List.setIfInBounds_toArray, List.set_cons_zero, List.set_cons_succ]
        refine wpT_tk 42 192 (v := ?_) hS rfl rfl (by rfl) (hy := fun w hw => ?_) (h := ?_)
        rotate_left
        · go_simp; with_reducible rfl
        try simp only [Act.put, List.setIfInBounds_toArray, List.set_cons_zero, List.set_cons_succ]
        refine wpT_tk 43 193 (v := ?_) hS rfl rfl (by rfl) (hy := fun w hw => ?_) (h := ?_)
        rotate_left
        · go_simp; with_reducible rfl
        try simp only [Act.put, List.setIfInBounds_toArray, List.set_cons_zero, List.set_cons_succ]
        refine wpT_tk 44 194 (v := ?_) hS rfl rfl (by rfl) (hy := fun w hw => ?_) (h := ?_)
        rotate_left
        · have x0 := keptBelow hw x0; have x1 := keptBelow hw x1; have x2 := keptBelow hw x2; have x3 := keptBelow hw x3; have x4 := keptBelow hw x4; have x5 := keptBelow hw x5; go_simp; with_reducible rfl
        try simp only [Act.put, List.setIfInBounds_toArray, List.set_cons_zero, List.set_cons_succ]
        refine wpT_tk 45 195 (v := ?_) hS rfl rfl (by rfl) (hy := fun w hw => ?_) (h := ?_)
        rotate_left
        · have y0 := keptBelow hw y0; have y1 := keptBelow hw y1; have y2 := keptBelow hw y2; have y3 := keptBelow hw y3; have y4 := keptBelow hw y4; have y5 := keptBelow hw y5; go_simp; with_reducible rfl
        try simp only [Act.put, List.setIfInBounds_toArray, List.set_cons_zero, List.set_cons_succ]
        refine wpT_tk 47 197 (v := ?_) hS rfl rfl (by rfl) (hy := fun w hw => ?_) (h := ?_)
        rotate_left
        · have z0 := keptBelow hw z0; have z1 := keptBelow hw z1; have z2 := keptBelow hw z2; have z3 := keptBelow hw z3; have z4 := keptBelow hw z4; have z5 := keptBelow hw z5; go_simp; with_reducible rfl
        try simp only [Act.put, List.setIfInBounds_toArray, List.set_cons_zero, List.set_cons_succ]
        refine wpT_tk 48 198 (v := ?_) hS rfl rfl (by rfl) (hy := fun w hw => ?_) (h := ?_)
        rotate_left
        · have v0 := keptBelow hw v0; have v1 := keptBelow hw v1; have v2 := keptBelow hw v2; have v3 := keptBelow hw v3; have v4 := keptBelow hw v4; have v5 := keptBelow hw v5; go_simp; with_reducible rfl
        try simp only [Act.put, List.setIfInBounds_toArray, List.set_cons_zero, List.set_cons_succ]
        refine wpT_oneW 46 rfl (by rfl) (by kernel_rfl) ?_
        go_simp
        refine ⟨trivial, ?_⟩
        have hc := overU_w u t _ _ _ (HU.out.via hS) (HV.out.via hS)
        refine (callsIn_wide.2 hc).mono ?_
        clear hc
        rintro e y9w ⟨rfl, hB⟩
        replace hS := belowStep hS hB
        clear hB
        refine ⟨hS, ?_⟩
        refine wpT_oneW 49 rfl (by rfl) (by kernel_rfl) ?_
        go_simp
        refine ⟨trivial, ?_⟩
        have hc := overU_w (mvU u X Y) (mvU t X Y) _ _ _ (HC.out.via hS) (HD.out.via hS)
        rw [HOV.out] at hc
        refine (callsIn_wide.2 hc).mono ?_
        clear hc
        rintro e y10w ⟨rfl, hB⟩
        replace hS := belowStep hS hB
        clear hB
        refine ⟨hS, ?_⟩
        generalize overU u t = ov at *
        refine wpT_tk 50 200 (v := ?_) hS rfl rfl (by rfl) (hy := fun w hw => ?_) (h := ?_)
        rotate_left
        · go_simp; with_reducible rfl
        try simp only [Act.put, List.setIfInBounds_toArray, List.set_cons_zero, List.set_cons_succ]
        refine wpT_tk 51 201 (v := ?_) hS rfl rfl (by rfl) (hy := fun w hw => ?_) (h := ?_)
        rotate_left
        · go_simp; with_reducible rfl
        try simp only [Act.put, List.setIfInBounds_toArray, List.set_cons_zero, List.set_cons_succ]
        refine wpT_oneW 52 rfl (by rfl) (by kernel_rfl) ?_
        go_simp
        try refine ⟨(fun h => by cases h), ?_⟩
        refine wpT_done (by kernel_rfl) ?_ _
        replace HB := Lib.hid (belowStep HB.out hS)
        clear x0 x1 x2 x3 x4 x5 y0 y1 y2 y3 y4 y5 z0 z1 z2 z3 z4 z5 v0 v1 v2 v3 v4 v5 k0 k1 k2 k3 k4 k5 m0 m1 m2 m3 m4 m5 m6 m7 n0 n1 n2 n3 n4 n5 n6 n7
        go_wp2_with fail
        go_ret
        exact ⟨rfl, HB.out⟩
      · have HMU := Lib.hid hmu
        have HMT := Lib.hid hmt
        clear hmu hmt
        have VC := Lib.hid (mov_some VU.out HMU.out).2
        have VD := Lib.hid (mov_some VT.out HMT.out).2
        rw [(mov_some VU.out HMU.out).1] at VC
        rw [(mov_some VT.out HMT.out).1] at VD
        have HOV : Hid (overU (mvU u X Y) (mvU t X Y) = overU u t) := Lib.hid (over_mv VU.out VC.out VT.out VD.out)
        have HVO : Hid (volP (mvU u X Y) = volP u) := Lib.hid (vol_mv VU.out VC.out)
        have HWO : Hid (wtP (mvU u X Y) = wtP u) := Lib.hid (wt_mv VU.out VC.out)
        have HMO : Hid (momP (mvU u X Y) = momP u + X * wtP u) := Lib.hid (mom_mv VU.out VC.out)
        have HTM := tou_mv VU.out VC.out VT.out VD.out
        rw [ho] at HTM
        obtain ⟨bk, hbk⟩ : ∃ b, bckP u t = b := ⟨_, rfl⟩
        obtain ⟨fr, hfr⟩ : ∃ b, frtP u t = b := ⟨_, rfl⟩
        have HE1 : Hid (touV u t = .tuple #[.agg #[.int .i64 u.id, .int .i64 t.id, .int .i64 P1, .int .i64 P2, .int .i64 Q1, .int .i64 Q2, .int .i64 bk, .int .i64 fr], .bool true]) := Lib.hid (by unfold touV; rw [ho, hbk, hfr]; rfl)
        have HE2 : Hid (touV (mvU u X Y) (mvU t X Y) = .tuple #[.agg #[.int .i64 u.id, .int .i64 t.id, .int .i64 (P1 + X), .int .i64 (P2 + Y), .int .i64 (Q1 + X), .int .i64 (Q2 + Y), .int .i64 bk, .int .i64 fr], .bool true]) := Lib.hid (by unfold touV; rw [HTM]; show Value.tuple #[conV u.id t.id (mv X Y (P1, P2), mv X Y (Q1, Q2)) (bckP u t) (frtP u t), .bool true] = _; rw [hbk, hfr]; rfl)
        have HF := Lib.hid (tou_f VU.out VT.out ho)
        clear hbk hfr
        clear HTM ho
        have hc := moveU_some VU.out HMU.out HIX.out HIY.out _ _ HU.out
        refine hc.mono ?_
        clear hc
        rintro e w3 ⟨ra, ka, rfl, hm, hB⟩
        replace HU := Lib.hid (HU.out.via hB)
        replace HV := Lib.hid (HV.out.via hB)
        replace HT := Lib.hid (HT.out.via hB)
        replace HX1 := Lib.hid (heap_below hB HX1.out)
        replace HX2 := Lib.hid (heap_below hB HX2.out)
        replace HB := Lib.hid (belowStep HB.out hB)
        clear hB
        have HC := Lib.hid hm
        clear hm
        have hB := alloc_below w3 (.cells #[.int .i64 u.id, .int .i64 u.kind, .int .i64 u.mat, .slice ra u.shape.length ka, .int .i64 u.back, .int .i64 u.front] 27)
        have HX3 := Lib.hid (heap_alloc_new w3 (.cells #[.int .i64 u.id, .int .i64 u.kind, .int .i64 u.mat, .slice ra u.shape.length ka, .int .i64 u.back, .int .i64 u.front] 27))
        replace HU := Lib.hid (HU.out.via hB)
        replace HV := Lib.hid (HV.out.via hB)
        replace HC := Lib.hid (HC.out.via hB)
        replace HT := Lib.hid (HT.out.via hB)
        replace HX1 := Lib.hid (heap_below hB HX1.out)
        replace HX2 := Lib.hid (heap_below hB HX2.out)
        replace HB := Lib.hid (belowStep HB.out hB)
        clear hB
        have y0 := cell_heap HX2.out (i := 0) rfl
        have y1 := cell_heap HX2.out (i := 1) rfl
        have y2 := cell_heap HX2.out (i := 2) rfl
        have y3 := cell_heap HX2.out (i := 3) rfl
        have y4 := cell_heap HX2.out (i := 4) rfl
        have y5 := cell_heap HX2.out (i := 5) rfl
        go_wp2_with fail
        clear y0 y1 y2 y3 y4 y5
        have hc := moveU_some VT.out HMT.out HIX.out HIY.out _ _ HV.out
        refine hc.mono ?_
        clear hc
        rintro e w4 ⟨rb, kb, rfl, hm, hB⟩
        replace HU := Lib.hid (HU.out.via hB)
        replace HV := Lib.hid (HV.out.via hB)
        replace HC := Lib.hid (HC.out.via hB)
        replace HT := Lib.hid (HT.out.via hB)
        replace HX1 := Lib.hid (heap_below hB HX1.out)
        replace HX2 := Lib.hid (heap_below hB HX2.out)
        replace HX3 := Lib.hid (heap_below hB HX3.out)
        replace HB := Lib.hid (belowStep HB.out hB)
        clear hB
        have HD := Lib.hid hm
        clear hm
        have hB := alloc_below w4 (.cells #[.int .i64 t.id, .int .i64 t.kind, .int .i64 t.mat, .slice rb t.shape.length kb, .int .i64 t.back, .int .i64 t.front] 27)
        have HX4 := Lib.hid (heap_alloc_new w4 (.cells #[.int .i64 t.id, .int .i64 t.kind, .int .i64 t.mat, .slice rb t.shape.length kb, .int .i64 t.back, .int .i64 t.front] 27))
        replace HU := Lib.hid (HU.out.via hB)
        replace HV := Lib.hid (HV.out.via hB)
        replace HC := Lib.hid (HC.out.via hB)
        replace HD := Lib.hid (HD.out.via hB)
        replace HT := Lib.hid (HT.out.via hB)
        replace HX1 := Lib.hid (heap_below hB HX1.out)
        replace HX2 := Lib.hid (heap_below hB HX2.out)
        replace HX3 := Lib.hid (heap_below hB HX3.out)
        replace HB := Lib.hid (belowStep HB.out hB)
        clear hB
        have x0 := cell_heap HX1.out (i := 0) rfl
        have x1 := cell_heap HX1.out (i := 1) rfl
        have x2 := cell_heap HX1.out (i := 2) rfl
        have x3 := cell_heap HX1.out (i := 3) rfl
        have x4 := cell_heap HX1.out (i := 4) rfl
        have x5 := cell_heap HX1.out (i := 5) rfl
        have y0 := cell_heap HX2.out (i := 0) rfl
        have y1 := cell_heap HX2.out (i := 1) rfl
        have y2 := cell_heap HX2.out (i := 2) rfl
        have y3 := cell_heap HX2.out (i := 3) rfl
        have y4 := cell_heap HX2.out (i := 4) rfl
        have y5 := cell_heap HX2.out (i := 5) rfl
        go_wp2_with fail
        clear x0 x1 x2 x3 x4 x5
        clear y0 y1 y2 y3 y4 y5
        have hc := touch_w u t _ _ _ HU.out HV.out
        rw [HE1.out] at hc
        refine hc.mono ?_
        clear hc
        rintro e w5 ⟨rfl, hB⟩
        replace HU := Lib.hid (HU.out.via hB)
        replace HV := Lib.hid (HV.out.via hB)
        replace HC := Lib.hid (HC.out.via hB)
        replace HD := Lib.hid (HD.out.via hB)
        replace HT := Lib.hid (HT.out.via hB)
        replace HX1 := Lib.hid (heap_below hB HX1.out)
        replace HX2 := Lib.hid (heap_below hB HX2.out)
        replace HX3 := Lib.hid (heap_below hB HX3.out)
        replace HX4 := Lib.hid (heap_below hB HX4.out)
        replace HB := Lib.hid (belowStep HB.out hB)
        clear hB
        have SHU := HU
        have SHV := HV
        have SHC := HC
        have SHD := HD
        have SHT := HT
        have SHX1 := HX1
        have SHX2 := HX2
        have SHX3 := HX3
        have SHX4 := HX4
        have SHB := HB
        have HB5 := Lib.hid (Below.refl w5.heap.size w5)
        have hB := alloc_below w5 (.cells #[.int .i64 u.id, .int .i64 t.id, .int .i64 P1, .int .i64 P2, .int .i64 Q1, .int .i64 Q2, .int .i64 bk, .int .i64 fr] 42)
        have HX5 := Lib.hid (heap_alloc_new w5 (.cells #[.int .i64 u.id, .int .i64 t.id, .int .i64 P1, .int .i64 P2, .int .i64 Q1, .int .i64 Q2, .int .i64 bk, .int .i64 fr] 42))
        replace HU := Lib.hid (HU.out.via hB)
        replace HV := Lib.hid (HV.out.via hB)
        replace HC := Lib.hid (HC.out.via hB)
        replace HD := Lib.hid (HD.out.via hB)
        replace HT := Lib.hid (HT.out.via hB)
        replace HX1 := Lib.hid (heap_below hB HX1.out)
        replace HX2 := Lib.hid (heap_below hB HX2.out)
        replace HX3 := Lib.hid (heap_below hB HX3.out)
        replace HX4 := Lib.hid (heap_below hB HX4.out)
        replace HB := Lib.hid (belowStep HB.out hB)
        replace HB5 := Lib.hid (belowStep HB5.out hB)
        clear hB
        have x0 := cell_heap HX3.out (i := 0) rfl
        have x1 := cell_heap HX3.out (i := 1) rfl
        have x2 := cell_heap HX3.out (i := 2) rfl
        have x3 := cell_heap HX3.out (i := 3) rfl
        have x4 := cell_heap HX3.out (i := 4) rfl
        have x5 := cell_heap HX3.out (i := 5) rfl
        have y0 := cell_heap HX4.out (i := 0) rfl
        have y1 := cell_heap HX4.out (i := 1) rfl
        have y2 := cell_heap HX4.out (i := 2) rfl
        have y3 := cell_heap HX4.out (i := 3) rfl
        have y4 := cell_heap HX4.out (i := 4) rfl
        have y5 := cell_heap HX4.out (i := 5) rfl
        go_wp2_with fail
        clear x0 x1 x2 x3 x4 x5
        clear y0 y1 y2 y3 y4 y5
        have hc := touch_w (mvU u X Y) (mvU t X Y) _ _ _ HC.out HD.out
        rw [HE2.out] at hc
        refine hc.mono ?_
        clear hc
        rintro e w6 ⟨rfl, hB⟩
        replace HU := Lib.hid (HU.out.via hB)
        replace HV := Lib.hid (HV.out.via hB)
        replace HC := Lib.hid (HC.out.via hB)
        replace HD := Lib.hid (HD.out.via hB)
        replace HT := Lib.hid (HT.out.via hB)
        replace HX1 := Lib.hid (heap_below hB HX1.out)
        replace HX2 := Lib.hid (heap_below hB HX2.out)
        replace HX3 := Lib.hid (heap_below hB HX3.out)
        replace HX4 := Lib.hid (heap_below hB HX4.out)
        replace HX5 := Lib.hid (heap_below hB HX5.out)
        replace HB := Lib.hid (belowStep HB.out hB)
        replace HB5 := Lib.hid (belowStep HB5.out hB)
        clear hB
        have HZ6 : Hid (w5.heap.size < w6.heap.size) := Lib.hid (lt_of_cell (cell_heap HX5.out (i := 0) rfl))
        have hB := alloc_below w6 (.cells #[.int .i64 u.id, .int .i64 t.id, .int .i64 (P1 + X), .int .i64 (P2 + Y), .int .i64 (Q1 + X), .int .i64 (Q2 + Y), .int .i64 bk, .int .i64 fr] 42)
        have HX6 := Lib.hid (heap_alloc_new w6 (.cells #[.int .i64 u.id, .int .i64 t.id, .int .i64 (P1 + X), .int .i64 (P2 + Y), .int .i64 (Q1 + X), .int .i64 (Q2 + Y), .int .i64 bk, .int .i64 fr] 42))
        replace HU := Lib.hid (HU.out.via hB)
        replace HV := Lib.hid (HV.out.via hB)
        replace HC := Lib.hid (HC.out.via hB)
        replace HD := Lib.hid (HD.out.via hB)
        replace HT := Lib.hid (HT.out.via hB)
        replace HX1 := Lib.hid (heap_below hB HX1.out)
        replace HX2 := Lib.hid (heap_below hB HX2.out)
        replace HX3 := Lib.hid (heap_below hB HX3.out)
        replace HX4 := Lib.hid (heap_below hB HX4.out)
        replace HX5 := Lib.hid (heap_below hB HX5.out)
        replace HB := Lib.hid (belowStep HB.out hB)
        replace HB5 := Lib.hid (belowStep HB5.out hB)
        clear hB
        have z0 := cell_heap HX5.out (i := 0) rfl
        have z1 := cell_heap HX5.out (i := 1) rfl
        have z2 := cell_heap HX5.out (i := 2) rfl
        have z3 := cell_heap HX5.out (i := 3) rfl
        have z4 := cell_heap HX5.out (i := 4) rfl
        have z5 := cell_heap HX5.out (i := 5) rfl
        have z6 := cell_heap HX5.out (i := 6) rfl
        have z7 := cell_heap HX5.out (i := 7) rfl
        have f2 := frozen_of_row _ _ 2 _ _ HX5.out
        have f3 := frozen_of_row _ _ 3 _ _ HX5.out
        have f4 := frozen_of_row _ _ 4 _ _ HX5.out
        have f5 := frozen_of_row _ _ 5 _ _ HX5.out
        have oP := HF.out.oP
        have oQ := HF.out.oQ
        obtain ⟨p1, p2, p3, p4⟩ := oP
        obtain ⟨q1, q2, q3, q4⟩ := oQ
        dsimp only at p1 p2 p3 p4 q1 q2 q3 q4
        go_upto_region 17 with fail
        clear z0 z1 z2 z3 z4 z5 z6 z7
        clear f2 f3 f4 f5 p1 p2 p3 p4 q1 q2 q3 q4
        have hB : Below w5.heap.size w5 (((((w6.alloc (.cells #[.int .i64 u.id, .int .i64 t.id, .int .i64 (P1 + X), .int .i64 (P2 + Y), .int .i64 (Q1 + X), .int .i64 (Q2 + Y), .int .i64 bk, .int .i64 fr] 42)).setCell ⟨w5.heap.size, 2, none⟩ (.int .i64 (P1 + X))).setCell ⟨w5.heap.size, 3, none⟩ (.int .i64 (P2 + Y))).setCell ⟨w5.heap.size, 4, none⟩ (.int .i64 (Q1 + X))).setCell ⟨w5.heap.size, 5, none⟩ (.int .i64 (Q2 + Y))) := ((((HB5.out.setCell (p := ⟨w5.heap.size, 2, none⟩) (Nat.le_refl _) _).setCell (p := ⟨w5.heap.size, 3, none⟩) (Nat.le_refl _) _).setCell (p := ⟨w5.heap.size, 4, none⟩) (Nat.le_refl _) _).setCell (p := ⟨w5.heap.size, 5, none⟩) (Nat.le_refl _) _)
        have hX5 := heap_setCell_same _ w5.heap.size 5 _ _ (.int .i64 (Q2 + Y)) (heap_setCell_same _ w5.heap.size 4 _ _ (.int .i64 (Q1 + X)) (heap_setCell_same _ w5.heap.size 3 _ _ (.int .i64 (P2 + Y)) (heap_setCell_same _ w5.heap.size 2 _ _ (.int .i64 (P1 + X)) HX5.out)))
        have hX6 := HX6.out
        replace hX6 := ((heap_setCell_other _ ⟨w5.heap.size, 5, none⟩ _ (.int .i64 (Q2 + Y)) (by have := HZ6.out; simp; omega)).trans ((heap_setCell_other _ ⟨w5.heap.size, 4, none⟩ _ (.int .i64 (Q1 + X)) (by have := HZ6.out; simp; omega)).trans ((heap_setCell_other _ ⟨w5.heap.size, 3, none⟩ _ (.int .i64 (P2 + Y)) (by have := HZ6.out; simp; omega)).trans ((heap_setCell_other _ ⟨w5.heap.size, 2, none⟩ _ (.int .i64 (P1 + X)) (by have := HZ6.out; simp; omega)).trans HX6.out))))
        obtain ⟨v6, hv6⟩ : ∃ v : World, v = (((((w6.alloc (.cells #[.int .i64 u.id, .int .i64 t.id, .int .i64 (P1 + X), .int .i64 (P2 + Y), .int .i64 (Q1 + X), .int .i64 (Q2 + Y), .int .i64 bk, .int .i64 fr] 42)).setCell ⟨w5.heap.size, 2, none⟩ (.int .i64 (P1 + X))).setCell ⟨w5.heap.size, 3, none⟩ (.int .i64 (P2 + Y))).setCell ⟨w5.heap.size, 4, none⟩ (.int .i64 (Q1 + X))).setCell ⟨w5.heap.size, 5, none⟩ (.int .i64 (Q2 + Y))) := ⟨_, rfl⟩
        rw [← hv6] at hB hX5 hX6 ⊢
        clear hv6
        have HX5 : Hid (v6.heap[w5.heap.size]? = some (.cells #[.int .i64 u.id, .int .i64 t.id, .int .i64 (P1 + X), .int .i64 (P2 + Y), .int .i64 (Q1 + X), .int .i64 (Q2 + Y), .int .i64 bk, .int .i64 fr] 42 (0, 0))) := Lib.hid hX5
        have HX6 := Lib.hid hX6
        clear hX5 hX6
        have HU := Lib.hid (SHU.out.via hB)
        have HV := Lib.hid (SHV.out.via hB)
        have HC := Lib.hid (SHC.out.via hB)
        have HD := Lib.hid (SHD.out.via hB)
        have HT := Lib.hid (SHT.out.via hB)
        have HX1 := Lib.hid (heap_below hB SHX1.out)
        have HX2 := Lib.hid (heap_below hB SHX2.out)
        have HX3 := Lib.hid (heap_below hB SHX3.out)
        have HX4 := Lib.hid (heap_below hB SHX4.out)
        replace HB := Lib.hid (belowStep SHB.out hB)
        clear hB
        have x0 := cell_heap HX3.out (i := 0) rfl
        have x1 := cell_heap HX3.out (i := 1) rfl
        have x2 := cell_heap HX3.out (i := 2) rfl
        have x3 := cell_heap HX3.out (i := 3) rfl
        have x4 := cell_heap HX3.out (i := 4) rfl
        have x5 := cell_heap HX3.out (i := 5) rfl
        go_wp2_with fail
        clear x0 x1 x2 x3 x4 x5
        have hc := moveU_back VU.out VC.out ⟨by omega, by omega⟩ ⟨by omega, by omega⟩ _ _ HC.out
        refine hc.mono ?_
        clear hc
        rintro e w7 ⟨rc, kc, rfl, hm, hB⟩
        replace HU := Lib.hid (HU.out.via hB)
        replace HV := Lib.hid (HV.out.via hB)
        replace HC := Lib.hid (HC.out.via hB)
        replace HD := Lib.hid (HD.out.via hB)
        replace HT := Lib.hid (HT.out.via hB)
        replace HX1 := Lib.hid (heap_below hB HX1.out)
        replace HX2 := Lib.hid (heap_below hB HX2.out)
        replace HX3 := Lib.hid (heap_below hB HX3.out)
        replace HX4 := Lib.hid (heap_below hB HX4.out)
        replace HX5 := Lib.hid (heap_below hB HX5.out)
        replace HX6 := Lib.hid (heap_below hB HX6.out)
        replace HB := Lib.hid (belowStep HB.out hB)
        clear hB
        have HK := Lib.hid hm
        clear hm
        have hB := alloc_below w7 (.cells #[.int .i64 u.id, .int .i64 u.kind, .int .i64 u.mat, .slice rc u.shape.length kc, .int .i64 u.back, .int .i64 u.front] 27)
        have HX7 := Lib.hid (heap_alloc_new w7 (.cells #[.int .i64 u.id, .int .i64 u.kind, .int .i64 u.mat, .slice rc u.shape.length kc, .int .i64 u.back, .int .i64 u.front] 27))
        replace HU := Lib.hid (HU.out.via hB)
        replace HV := Lib.hid (HV.out.via hB)
        replace HC := Lib.hid (HC.out.via hB)
        replace HD := Lib.hid (HD.out.via hB)
        replace HK := Lib.hid (HK.out.via hB)
        replace HT := Lib.hid (HT.out.via hB)
        replace HX1 := Lib.hid (heap_below hB HX1.out)
        replace HX2 := Lib.hid (heap_below hB HX2.out)
        replace HX3 := Lib.hid (heap_below hB HX3.out)
        replace HX4 := Lib.hid (heap_below hB HX4.out)
        replace HX5 := Lib.hid (heap_below hB HX5.out)
        replace HX6 := Lib.hid (heap_below hB HX6.out)
        replace HB := Lib.hid (belowStep HB.out hB)
        clear hB
        go_upto_region 18 with fail
        refine (wpIn_wide (n := 5)).1 ?_
        refine wpIn_region_T (fun w' => Below (w7.alloc (.cells #[.int .i64 u.id, .int .i64 u.kind, .int .i64 u.mat, .slice rc u.shape.length kc, .int .i64 u.back, .int .i64 u.front] 27)).drew.heap.size (w7.alloc (.cells #[.int .i64 u.id, .int .i64 u.kind, .int .i64 u.mat, .slice rc u.shape.length kc, .int .i64 u.back, .int .i64 u.front] 27)).drew w') 52 (by kernel_rfl) ?_
        have hB : Below (w7.alloc (.cells #[.int .i64 u.id, .int .i64 u.kind, .int .i64 u.mat, .slice rc u.shape.length kc, .int .i64 u.back, .int .i64 u.front] 27)).heap.size (w7.alloc (.cells #[.int .i64 u.id, .int .i64 u.kind, .int .i64 u.mat, .slice rc u.shape.length kc, .int .i64 u.back, .int .i64 u.front] 27)) (w7.alloc (.cells #[.int .i64 u.id, .int .i64 u.kind, .int .i64 u.mat, .slice rc u.shape.length kc, .int .i64 u.back, .int .i64 u.front] 27)).drew := (Below.refl _ _).drew
        obtain ⟨wd, hwd⟩ : ∃ v : World, v = (w7.alloc (.cells #[.int .i64 u.id, .int .i64 u.kind, .int .i64 u.mat, .slice rc u.shape.length kc, .int .i64 u.back, .int .i64 u.front] 27)).drew := ⟨_, rfl⟩
        rw [← hwd] at hB ⊢
        clear hwd
        replace HU := Lib.hid (HU.out.via hB)
        replace HV := Lib.hid (HV.out.via hB)
        replace HC := Lib.hid (HC.out.via hB)
        replace HD := Lib.hid (HD.out.via hB)
        replace HK := Lib.hid (HK.out.via hB)
        replace HT := Lib.hid (HT.out.via hB)
        replace HX1 := Lib.hid (heap_below hB HX1.out)
        replace HX2 := Lib.hid (heap_below hB HX2.out)
        replace HX3 := Lib.hid (heap_below hB HX3.out)
        replace HX4 := Lib.hid (heap_below hB HX4.out)
        replace HX5 := Lib.hid (heap_below hB HX5.out)
        replace HX6 := Lib.hid (heap_below hB HX6.out)
        replace HX7 := Lib.hid (heap_below hB HX7.out)
        replace HB := Lib.hid (belowStep HB.out hB)
        clear hB
        have x0 := cell_heap HX1.out (i := 0) rfl
        have x1 := cell_heap HX1.out (i := 1) rfl
        have x2 := cell_heap HX1.out (i := 2) rfl
        have x3 := cell_heap HX1.out (i := 3) rfl
        have x4 := cell_heap HX1.out (i := 4) rfl
        have x5 := cell_heap HX1.out (i := 5) rfl
        have y0 := cell_heap HX2.out (i := 0) rfl
        have y1 := cell_heap HX2.out (i := 1) rfl
        have y2 := cell_heap HX2.out (i := 2) rfl
        have y3 := cell_heap HX2.out (i := 3) rfl
        have y4 := cell_heap HX2.out (i := 4) rfl
        have y5 := cell_heap HX2.out (i := 5) rfl
        have z0 := cell_heap HX3.out (i := 0) rfl
        have z1 := cell_heap HX3.out (i := 1) rfl
        have z2 := cell_heap HX3.out (i := 2) rfl
        have z3 := cell_heap HX3.out (i := 3) rfl
        have z4 := cell_heap HX3.out (i := 4) rfl
        have z5 := cell_heap HX3.out (i := 5) rfl
        have v0 := cell_heap HX4.out (i := 0) rfl
        have v1 := cell_heap HX4.out (i := 1) rfl
        have v2 := cell_heap HX4.out (i := 2) rfl
        have v3 := cell_heap HX4.out (i := 3) rfl
        have v4 := cell_heap HX4.out (i := 4) rfl
        have v5 := cell_heap HX4.out (i := 5) rfl
        have k0 := cell_heap HX7.out (i := 0) rfl
        have k1 := cell_heap HX7.out (i := 1) rfl
        have k2 := cell_heap HX7.out (i := 2) rfl
        have k3 := cell_heap HX7.out (i := 3) rfl
        have k4 := cell_heap HX7.out (i := 4) rfl
        have k5 := cell_heap HX7.out (i := 5) rfl
        have m0 := cell_heap HX5.out (i := 0) rfl
        have m1 := cell_heap HX5.out (i := 1) rfl
        have m2 := cell_heap HX5.out (i := 2) rfl
        have m3 := cell_heap HX5.out (i := 3) rfl
        have m4 := cell_heap HX5.out (i := 4) rfl
        have m5 := cell_heap HX5.out (i := 5) rfl
        have m6 := cell_heap HX5.out (i := 6) rfl
        have m7 := cell_heap HX5.out (i := 7) rfl
        have n0 := cell_heap HX6.out (i := 0) rfl
        have n1 := cell_heap HX6.out (i := 1) rfl
        have n2 := cell_heap HX6.out (i := 2) rfl
        have n3 := cell_heap HX6.out (i := 3) rfl
        have n4 := cell_heap HX6.out (i := 4) rfl
        have n5 := cell_heap HX6.out (i := 5) rfl
        have n6 := cell_heap HX6.out (i := 6) rfl
        have n7 := cell_heap HX6.out (i := 7) rfl
        refine wpT_tk 0 150 (v := ?_) (Below.refl _ _) rfl rfl (by rfl) (hy := fun w hw => ?_) (h := ?_)
        rotate_left
        · go_simp; with_reducible rfl
        try simp only [Act.put, List.setIfInBounds_toArray, List.set_cons_zero, List.set_cons_succ]
        refine wpT_tk 1 151 (v := ?_) (Below.refl _ _) rfl rfl (by rfl) (hy := fun w hw => ?_) (h := ?_)
        rotate_left
        · go_simp; with_reducible rfl
        try simp only [Act.put, List.setIfInBounds_toArray, List.set_cons_zero, List.set_cons_succ]
        refine wpT_tk 2 152 (v := ?_) (Below.refl _ _) rfl rfl (by rfl) (hy := fun w hw => ?_) (h := ?_)
        rotate_left
        · go_simp; with_reducible rfl
        try simp only [Act.put, List.setIfInBounds_toArray, List.set_cons_zero, List.set_cons_succ]
        refine wpT_tk 3 153 (v := ?_) (Below.refl _ _) rfl rfl (by rfl) (hy := fun w hw => ?_) (h := ?_)
        rotate_left
        · have k0 := keptBelow hw k0; have k1 := keptBelow hw k1; have k2 := keptBelow hw k2; have k3 := keptBelow hw k3; have k4 := keptBelow hw k4; have k5 := keptBelow hw k5; go_simp; with_reducible rfl
        try simp only [Act.put, List.setIfInBounds_toArray, List.set_cons_zero, List.set_cons_succ]
        refine wpT_tk 4 154 (v := ?_) (Below.refl _ _) rfl rfl (by rfl) (hy := fun w hw => ?_) (h := ?_)
        rotate_left
        · have x0 := keptBelow hw x0; have x1 := keptBelow hw x1; have x2 := keptBelow hw x2; have x3 := keptBelow hw x3; have x4 := keptBelow hw x4; have x5 := keptBelow hw x5; go_simp; with_reducible rfl
        try simp only [Act.put, List.setIfInBounds_toArray, List.set_cons_zero, List.set_cons_succ]
        have HSM : Hid (sameU u u = true) := Lib.hid ((sameU_iff _ _).2 rfl)
        refine wpT_oneW 5 rfl (by rfl) (by kernel_rfl) ?_
        go_simp
        refine ⟨trivial, ?_⟩
        have hc := sameU_w u u _ _ _ HK.out HU.out
        rw [HSM.out] at hc
        refine (callsIn_wide.2 hc).mono ?_
        clear hc
        rintro e y1w ⟨rfl, hB⟩
        have hS := hB
        clear hB
        refine ⟨hS, ?_⟩
        refine wpT_tk 6 156 (v := ?_) hS rfl rfl (by rfl) (hy := fun w hw => ?_) (h := ?_)
        rotate_left
        · go_simp; with_reducible rfl
        try simp only [Act.put, List.setIfInBounds_toArray, List.set_cons_zero, List.set_cons_succ]
        refine wpT_tk 7 157 (v := ?_) hS rfl rfl (by rfl) (hy := fun w hw => ?_) (h := ?_)
        rotate_left
        · go_simp; with_reducible rfl
        try simp only [Act.put, List.setIfInBounds_toArray, List.set_cons_zero, List.set_cons_succ]
        refine wpT_tk 8 158 (v := ?_) hS rfl rfl (by rfl) (hy := fun w hw => ?_) (h := ?_)
        rotate_left
        · have z0 := keptBelow hw z0; have z1 := keptBelow hw z1; have z2 := keptBelow hw z2; have z3 := keptBelow hw z3; have z4 := keptBelow hw z4; have z5 := keptBelow hw z5; go_simp; with_reducible rfl
        try simp only [Act.put, List.setIfInBounds_toArray, List.set_cons_zero, List.set_cons_succ]
        refine wpT_tk 10 160 (v := ?_) hS rfl rfl (by rfl) (hy := fun w hw => ?_) (h := ?_)
        rotate_left
        · have x0 := keptBelow hw x0; have x1 := keptBelow hw x1; have x2 := keptBelow hw x2; have x3 := keptBelow hw x3; have x4 := keptBelow hw x4; have x5 := keptBelow hw x5; go_simp; with_reducible rfl
        try simp only [Act.put, List.setIfInBounds_toArray, List.set_cons_zero, List.set_cons_succ]
        refine wpT_oneW 9 rfl (by rfl) (by kernel_rfl) ?_
        go_simp
        refine ⟨trivial, ?_⟩
        have hc := volume_w (mvU u X Y) _ _ (HC.out.via hS)
        rw [HVO.out] at hc
        refine (callsIn_wide.2 hc).mono ?_
        clear hc
        rintro e y2w ⟨rfl, hB⟩
        replace hS := belowStep hS hB
        clear hB
        refine ⟨hS, ?_⟩
        refine wpT_oneW 11 rfl (by rfl) (by kernel_rfl) ?_
        go_simp
        refine ⟨trivial, ?_⟩
        have hc := volume_w u _ _ (HU.out.via hS)
        refine (callsIn_wide.2 hc).mono ?_
        clear hc
        rintro e y3w ⟨rfl, hB⟩
        replace hS := belowStep hS hB
        clear hB
        refine ⟨hS, ?_⟩
        refine wpT_tk 12 162 (v := ?_) hS rfl rfl (by rfl) (hy := fun w hw => ?_) (h := ?_)
        rotate_left
        · go_simp; with_reducible rfl
        try simp only [Act.put, List.setIfInBounds_toArray, List.set_cons_zero, List.set_cons_succ]
        refine wpT_tk 13 163 (v := ?_) hS rfl rfl (by rfl) (hy := fun w hw => ?_) (h := ?_)
        rotate_left
        · go_simp; with_reducible rfl
        try simp only [Act.put, List.setIfInBounds_toArray, List.set_cons_zero, List.set_cons_succ]
        refine wpT_tk 14 164 (v := ?_) hS rfl rfl (by rfl) (hy := fun w hw => ?_) (h := ?_)
        rotate_left
        · go_simp; with_reducible rfl
        try simp only [Act.put, List.setIfInBounds_toArray, List.set_cons_zero, List.set_cons_succ]
        refine wpT_tk 15 165 (v := ?_) hS rfl rfl (by rfl) (hy := fun w hw => ?_) (h := ?_)
        rotate_left
        · have z0 := keptBelow hw z0; have z1 := keptBelow hw z1; have z2 := keptBelow hw z2; have z3 := keptBelow hw z3; have z4 := keptBelow hw z4; have z5 := keptBelow hw z5; go_simp; with_reducible rfl
        try simp only [Act.put, List.setIfInBounds_toArray, List.set_cons_zero, List.set_cons_succ]
        refine wpT_tk 17 167 (v := ?_) hS rfl rfl (by rfl) (hy := fun w hw => ?_) (h := ?_)
        rotate_left
        · have x0 := keptBelow hw x0; have x1 := keptBelow hw x1; have x2 := keptBelow hw x2; have x3 := keptBelow hw x3; have x4 := keptBelow hw x4; have x5 := keptBelow hw x5; go_simp; with_reducible rfl
        try simp only [Act.put, List.setIfInBounds_toArray, List.set_cons_zero, List.set_cons_succ]
        refine wpT_oneW 16 rfl (by rfl) (by kernel_rfl) ?_
        go_simp
        refine ⟨trivial, ?_⟩
        have hc := weight_w (mvU u X Y) _ _ (HC.out.via hS) (HT.out.via hS)
        rw [HWO.out] at hc
        refine (callsIn_wide.2 hc).mono ?_
        clear hc
        rintro e y4w ⟨rfl, hB⟩
        replace hS := belowStep hS hB
        clear hB
        refine ⟨hS, ?_⟩
        refine wpT_oneW 18 rfl (by rfl) (by kernel_rfl) ?_
        go_simp
        refine ⟨trivial, ?_⟩
        have hc := weight_w u _ _ (HU.out.via hS) (HT.out.via hS)
        refine (callsIn_wide.2 hc).mono ?_
        clear hc
        rintro e y5w ⟨rfl, hB⟩
        replace hS := belowStep hS hB
        clear hB
        refine ⟨hS, ?_⟩
        refine wpT_tk 19 169 (v := ?_) hS rfl rfl (by rfl) (hy := fun w hw => ?_) (h := ?_)
        rotate_left
        · go_simp; with_reducible rfl
        try simp only [Act.put, List.setIfInBounds_toArray, List.set_cons_zero, List.set_cons_succ]
        refine wpT_tk 20 170 (v := ?_) hS rfl rfl (by rfl) (hy := fun w hw => ?_) (h := ?_)
        rotate_left
        · go_simp; with_reducible rfl
        try simp only [Act.put, List.setIfInBounds_toArray, List.set_cons_zero, List.set_cons_succ]
        refine wpT_tk 21 171 (v := ?_) hS rfl rfl (by rfl) (hy := fun w hw => ?_) (h := ?_)
        rotate_left
        · go_simp; with_reducible rfl
        try simp only [Act.put, List.setIfInBounds_toArray, List.set_cons_zero, List.set_cons_succ]
        refine wpT_tk 22 172 (v := ?_) hS rfl rfl (by rfl) (hy := fun w hw => ?_) (h := ?_)
        rotate_left
        · have z0 := keptBelow hw z0; have z1 := keptBelow hw z1; have z2 := keptBelow hw z2; have z3 := keptBelow hw z3; have z4 := keptBelow hw z4; have z5 := keptBelow hw z5; go_simp; with_reducible rfl
        try simp only [Act.put, List.setIfInBounds_toArray, List.set_cons_zero, List.set_cons_succ]
        refine wpT_tk 24 174 (v := ?_) hS rfl rfl (by rfl) (hy := fun w hw => ?_) (h := ?_)
        rotate_left
        · have x0 := keptBelow hw x0; have x1 := keptBelow hw x1; have x2 := keptBelow hw x2; have x3 := keptBelow hw x3; have x4 := keptBelow hw x4; have x5 := keptBelow hw x5; go_simp; with_reducible rfl
        try simp only [Act.put, List.setIfInBounds_toArray, List.set_cons_zero, List.set_cons_succ]
        refine wpT_tk 26 176 (v := ?_) hS rfl rfl (by rfl) (hy := fun w hw => ?_) (h := ?_)
        rotate_left
        · go_simp; with_reducible rfl
        try simp only [Act.put, List.setIfInBounds_toArray, List.set_cons_zero, List.set_cons_succ]
        refine wpT_tk 27 177 (v := ?_) hS rfl rfl (by rfl) (hy := fun w hw => ?_) (h := ?_)
        rotate_left
        · have x0 := keptBelow hw x0; have x1 := keptBelow hw x1; have x2 := keptBelow hw x2; have x3 := keptBelow hw x3; have x4 := keptBelow hw x4; have x5 := keptBelow hw x5; go_simp; with_reducible rfl
        try simp only [Act.put, List.setIfInBounds_toArray, List.set_cons_zero, List.set_cons_succ]
        refine wpT_oneW 23 rfl (by rfl) (by kernel_rfl) ?_
        go_simp
        refine ⟨trivial, ?_⟩
        have hc := moment_w (mvU u X Y) _ _ (HC.out.via hS) (HT.out.via hS)
        rw [HMO.out] at hc
        refine (callsIn_wide.2 hc).mono ?_
        clear hc
        rintro e y6w ⟨rfl, hB⟩
        replace hS := belowStep hS hB
        clear hB
        refine ⟨hS, ?_⟩
        refine wpT_oneW 25 rfl (by rfl) (by kernel_rfl) ?_
        go_simp
        refine ⟨trivial, ?_⟩
        have hc := moment_w u _ _ (HU.out.via hS) (HT.out.via hS)
        refine (callsIn_wide.2 hc).mono ?_
        clear hc
        rintro e y7w ⟨rfl, hB⟩
        replace hS := belowStep hS hB
        clear hB
        refine ⟨hS, ?_⟩
        refine wpT_oneW 28 rfl (by rfl) (by kernel_rfl) ?_
        go_simp
        refine ⟨trivial, ?_⟩
        have hc := weight_w u _ _ (HU.out.via hS) (HT.out.via hS)
        refine (callsIn_wide.2 hc).mono ?_
        clear hc
        rintro e y8w ⟨rfl, hB⟩
        replace hS := belowStep hS hB
        clear hB
        refine ⟨hS, ?_⟩
        have g1 := wt_in VU.out
        have g2 := mom_in VU.out
        have g3 := mul_bd3 (x := X) (n := wtP u) (M := 6) (N := 1000000000000) hx1 hx2 (by omega) g1.2 (by omega)
        have e1 : IntKind.i64.wrap (X * wtP u) = X * wtP u := IntWalk.i64_in _ (by omega)
        have e2 : IntKind.i64.wrap (momP u + X * wtP u) = momP u + X * wtP u := IntWalk.i64_in _ (by omega)
        clear g1 g2 g3
        refine wpT_tk 29 179 (v := ?_) hS rfl rfl (by rfl) (hy := fun w hw => ?_) (h := ?_)
        rotate_left
        · go_simp; with_reducible rfl
        try simp only [Act.put, List.setIfInBounds_toArray, List.set_cons_zero, List.set_cons_succ]
        refine wpT_tk 30 180 (v := ?_) hS rfl rfl (by rfl) (hy := fun w hw => ?_) (h := ?_)
        rotate_left
        · go_simp; with_reducible rfl
        try simp only [Act.put, List.setIfInBounds_toArray, List.set_cons_zero, List.set_cons_succ]
        refine wpT_tk 31 181 (v := ?_) hS rfl rfl (by rfl) (hy := fun w hw => ?_) (h := ?_)
        rotate_left
        · go_simp; with_reducible rfl
        try simp only [Act.put, List.setIfInBounds_toArray, List.set_cons_zero, List.set_cons_succ]
        refine wpT_tk 32 182 (v := ?_) hS rfl rfl (by rfl) (hy := fun w hw => ?_) (h := ?_)
        rotate_left
        · go_simp; with_reducible rfl
        try simp only [Act.put, List.setIfInBounds_toArray, List.set_cons_zero, List.set_cons_succ]
        refine wpT_tk 33 183 (v := ?_) hS rfl rfl (by rfl) (hy := fun w hw => ?_) (h := ?_)
        rotate_left
        · go_simp; with_reducible rfl
        try simp only [Act.put, List.setIfInBounds_toArray, List.set_cons_zero, List.set_cons_succ]
        refine wpT_tk 34 184 (v := ?_) hS rfl rfl (by rfl) (hy := fun w hw => ?_) (h := ?_)
        rotate_left
        · go_simp; with_reducible rfl
        try simp only [Act.put, List.setIfInBounds_toArray, List.set_cons_zero, List.set_cons_succ]
        refine wpT_tk 35 185 (v := ?_) hS rfl rfl (by rfl) (hy := fun w hw => ?_) (h := ?_)
        rotate_left
        · go_simp; with_reducible rfl
        try simp only [Act.put, List.setIfInBounds_toArray, List.set_cons_zero, List.set_cons_succ]
        refine wpT_tk 36 186 (v := ?_) hS rfl rfl (by rfl) (hy := fun w hw => ?_) (h := ?_)
        rotate_left
        · go_simp; with_reducible rfl
        try simp only [Act.put, List.setIfInBounds_toArray, List.set_cons_zero, List.set_cons_succ]
        refine wpT_tk 37 187 (v := ?_) hS rfl rfl (by rfl) (hy := fun w hw => ?_) (h := ?_)
        rotate_left
        · go_simp; with_reducible rfl
        try simp only [Act.put, List.setIfInBounds_toArray, List.set_cons_zero, List.set_cons_succ]
        refine wpT_tk 38 188 (v := ?_) hS rfl rfl (by rfl) (hy := fun w hw => ?_) (h := ?_)
        rotate_left
        · go_simp; with_reducible rfl
        try simp only [Act.put, List.setIfInBounds_toArray, List.set_cons_zero, List.set_cons_succ]
        refine wpT_tk 39 189 (v := ?_) hS rfl rfl (by rfl) (hy := fun w hw => ?_) (h := ?_)
        rotate_left
        · have m0 := keptBelow hw m0; have m1 := keptBelow hw m1; have m2 := keptBelow hw m2; have m3 := keptBelow hw m3; have m4 := keptBelow hw m4; have m5 := keptBelow hw m5; have m6 := keptBelow hw m6; have m7 := keptBelow hw m7; go_simp; with_reducible rfl
        try simp only [Act.put, List.setIfInBounds_toArray, List.set_cons_zero, List.set_cons_succ]
        refine wpT_tk 40 190 (v := ?_) hS rfl rfl (by rfl) (hy := fun w hw => ?_) (h := ?_)
        rotate_left
        · have n0 := keptBelow hw n0; have n1 := keptBelow hw n1; have n2 := keptBelow hw n2; have n3 := keptBelow hw n3; have n4 := keptBelow hw n4; have n5 := keptBelow hw n5; have n6 := keptBelow hw n6; have n7 := keptBelow hw n7; go_simp; with_reducible rfl
        try simp only [Act.put, List.setIfInBounds_toArray, List.set_cons_zero, List.set_cons_succ]
        refine wpT_tk 41 191 (v := ?_) hS rfl rfl (by rfl) (hy := fun w hw => ?_) (h := ?_)
        rotate_left
        · go_simp; with_reducible rfl
        try simp only [Act.put, List.setIfInBounds_toArray, List.set_cons_zero, List.set_cons_succ]
        refine wpT_tk 42 192 (v := ?_) hS rfl rfl (by rfl) (hy := fun w hw => ?_) (h := ?_)
        rotate_left
        · go_simp; with_reducible rfl
        try simp only [Act.put, List.setIfInBounds_toArray, List.set_cons_zero, List.set_cons_succ]
        refine wpT_tk 43 193 (v := ?_) hS rfl rfl (by rfl) (hy := fun w hw => ?_) (h := ?_)
        rotate_left
        · go_simp; with_reducible rfl
        try simp only [Act.put, List.setIfInBounds_toArray, List.set_cons_zero, List.set_cons_succ]
        refine wpT_tk 44 194 (v := ?_) hS rfl rfl (by rfl) (hy := fun w hw => ?_) (h := ?_)
        rotate_left
        · have x0 := keptBelow hw x0; have x1 := keptBelow hw x1; have x2 := keptBelow hw x2; have x3 := keptBelow hw x3; have x4 := keptBelow hw x4; have x5 := keptBelow hw x5; go_simp; with_reducible rfl
        try simp only [Act.put, List.setIfInBounds_toArray, List.set_cons_zero, List.set_cons_succ]
        refine wpT_tk 45 195 (v := ?_) hS rfl rfl (by rfl) (hy := fun w hw => ?_) (h := ?_)
        rotate_left
        · have y0 := keptBelow hw y0; have y1 := keptBelow hw y1; have y2 := keptBelow hw y2; have y3 := keptBelow hw y3; have y4 := keptBelow hw y4; have y5 := keptBelow hw y5; go_simp; with_reducible rfl
        try simp only [Act.put, List.setIfInBounds_toArray, List.set_cons_zero, List.set_cons_succ]
        refine wpT_tk 47 197 (v := ?_) hS rfl rfl (by rfl) (hy := fun w hw => ?_) (h := ?_)
        rotate_left
        · have z0 := keptBelow hw z0; have z1 := keptBelow hw z1; have z2 := keptBelow hw z2; have z3 := keptBelow hw z3; have z4 := keptBelow hw z4; have z5 := keptBelow hw z5; go_simp; with_reducible rfl
        try simp only [Act.put, List.setIfInBounds_toArray, List.set_cons_zero, List.set_cons_succ]
        refine wpT_tk 48 198 (v := ?_) hS rfl rfl (by rfl) (hy := fun w hw => ?_) (h := ?_)
        rotate_left
        · have v0 := keptBelow hw v0; have v1 := keptBelow hw v1; have v2 := keptBelow hw v2; have v3 := keptBelow hw v3; have v4 := keptBelow hw v4; have v5 := keptBelow hw v5; go_simp; with_reducible rfl
        try simp only [Act.put, List.setIfInBounds_toArray, List.set_cons_zero, List.set_cons_succ]
        refine wpT_oneW 46 rfl (by rfl) (by kernel_rfl) ?_
        go_simp
        refine ⟨trivial, ?_⟩
        have hc := overU_w u t _ _ _ (HU.out.via hS) (HV.out.via hS)
        refine (callsIn_wide.2 hc).mono ?_
        clear hc
        rintro e y9w ⟨rfl, hB⟩
        replace hS := belowStep hS hB
        clear hB
        refine ⟨hS, ?_⟩
        refine wpT_oneW 49 rfl (by rfl) (by kernel_rfl) ?_
        go_simp
        refine ⟨trivial, ?_⟩
        have hc := overU_w (mvU u X Y) (mvU t X Y) _ _ _ (HC.out.via hS) (HD.out.via hS)
        rw [HOV.out] at hc
        refine (callsIn_wide.2 hc).mono ?_
        clear hc
        rintro e y10w ⟨rfl, hB⟩
        replace hS := belowStep hS hB
        clear hB
        refine ⟨hS, ?_⟩
        generalize overU u t = ov at *
        refine wpT_tk 50 200 (v := ?_) hS rfl rfl (by rfl) (hy := fun w hw => ?_) (h := ?_)
        rotate_left
        · go_simp; with_reducible rfl
        try simp only [Act.put, List.setIfInBounds_toArray, List.set_cons_zero, List.set_cons_succ]
        refine wpT_tk 51 201 (v := ?_) hS rfl rfl (by rfl) (hy := fun w hw => ?_) (h := ?_)
        rotate_left
        · go_simp; with_reducible rfl
        try simp only [Act.put, List.setIfInBounds_toArray, List.set_cons_zero, List.set_cons_succ]
        refine wpT_oneW 52 rfl (by rfl) (by kernel_rfl) ?_
        go_simp
        try refine ⟨(fun h => by cases h), ?_⟩
        refine wpT_done (by kernel_rfl) ?_ _
        replace HB := Lib.hid (belowStep HB.out hS)
        clear x0 x1 x2 x3 x4 x5 y0 y1 y2 y3 y4 y5 z0 z1 z2 z3 z4 z5 v0 v1 v2 v3 v4 v5 k0 k1 k2 k3 k4 k5 m0 m1 m2 m3 m4 m5 m6 m7 n0 n1 n2 n3 n4 n5 n6 n7
        go_wp2_with fail
        go_ret
        exact ⟨rfl, HB.out⟩
end Go.Proofs.YtcamncipkofgkaaDoor
