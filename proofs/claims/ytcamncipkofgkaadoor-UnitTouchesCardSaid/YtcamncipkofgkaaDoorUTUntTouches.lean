/- The walk of UnitTouches. -/
import Derived.Test.YtcamncipkofgkaaDoorUM10
import Derived.Test.YtcamncipkofgkaaDoorUT1
namespace Go.Proofs.YtcamncipkofgkaaDoor
open Go.RowKit Go.Shelf Pln Unt
set_option maxRecDepth 100000 in
set_option maxHeartbeats 4000000 in
theorem touches_w (x y : List Pt) (hx : (x.length : Int) ≤ 9223372036854775807) (hy : (y.length : Int) ≤ 9223372036854775807) (how : Int) (hh : I64 how) (a0 a1 a2 a3 : Int) (b0 b1 b2 b3 : Int)
    (ha : I64 a0 ∧ I64 a1 ∧ I64 a2 ∧ I64 a3) (hb : I64 b0 ∧ I64 b1 ∧ I64 b2 ∧ I64 b3) (vx1 vx2 : Value) (w : World) (h1 : PtsAt w vx1 x) (h2 : PtsAt w vx2 y) (hT : TabU w) :
    Calls Tryd.prog 5 #[vx1, vx2, .int .i64 how, .agg #[.int .i64 a0, .int .i64 a1, .int .i64 a2, .int .i64 a3], .agg #[.int .i64 b0, .int .i64 b1, .int .i64 b2, .int .i64 b3]] w fun e w' => e = .returned (.bool true) ∧ Below w.heap.size w w' := by
  have HH := Lib.hid hh
  have HA := Lib.hid ha
  have HA2 := Lib.hid hb
  have HX := Lib.hid hx
  have HY := Lib.hid hy
  have hB0 := alloc_below w (.cells #[.int .i64 a0, .int .i64 a1, .int .i64 a2, .int .i64 a3] 23)
  have hB := belowStep hB0 (alloc_below (w.alloc (.cells #[.int .i64 a0, .int .i64 a1, .int .i64 a2, .int .i64 a3] 23)) (.cells #[.int .i64 b0, .int .i64 b1, .int .i64 b2, .int .i64 b3] 23))
  have HP := Lib.hid (heap_below (alloc_below (w.alloc (.cells #[.int .i64 a0, .int .i64 a1, .int .i64 a2, .int .i64 a3] 23)) (.cells #[.int .i64 b0, .int .i64 b1, .int .i64 b2, .int .i64 b3] 23)) (heap_alloc_new w (.cells #[.int .i64 a0, .int .i64 a1, .int .i64 a2, .int .i64 a3] 23)))
  have HQ := Lib.hid (heap_alloc_new (w.alloc (.cells #[.int .i64 a0, .int .i64 a1, .int .i64 a2, .int .i64 a3] 23)) (.cells #[.int .i64 b0, .int .i64 b1, .int .i64 b2, .int .i64 b3] 23))
  have hsz : (w.alloc (.cells #[.int .i64 a0, .int .i64 a1, .int .i64 a2, .int .i64 a3] 23)).heap.size = w.heap.size + 1 := by simp
  rw [hsz] at HQ
  clear hB0 hsz
  have H1 := Lib.hid (h1.via hB)
  have H2 := Lib.hid (h2.via hB)
  have HT := Lib.hid (hT.via hB)
  have HB := Lib.hid hB
  clear hh ha hx hy h1 h2 hT hB hb
  go_enter Tryd.func5, Tryd.ntmps5
  go_wp2_with fail
  refine (sane8_w _ HT.out).mono ?_
  rintro e w1 ⟨rfl, hB⟩
  have HP1 := heap_below hB HP.out
  have p0 := cell_heap HP1 (i := 0) rfl
  have p1 := cell_heap HP1 (i := 1) rfl
  have p2 := cell_heap HP1 (i := 2) rfl
  have p3 := cell_heap HP1 (i := 3) rfl
  have HQ1 := heap_below hB HQ.out
  have q0 := cell_heap HQ1 (i := 0) rfl
  have q1 := cell_heap HQ1 (i := 1) rfl
  have q2 := cell_heap HQ1 (i := 2) rfl
  have q3 := cell_heap HQ1 (i := 3) rfl
  replace H1 := Lib.hid (H1.out.via hB)
  replace H2 := Lib.hid (H2.out.via hB)
  replace HT := Lib.hid (HT.out.via hB)
  replace HB := Lib.hid (belowStep HB.out hB)
  clear hB HP HP1 HQ HQ1
  go_wp2_with fail
  clear p0 p1 p2 p3 q0 q1 q2 q3
  refine (pair8_w x y HX.out HY.out how HH.out a0 a1 a2 a3 b0 b1 b2 b3 HA.out HA2.out vx1 vx2 _ H1.out H2.out).mono ?_
  rintro e w2 ⟨u, t, r, s, rfl, vu, vt, hu, ht, hB⟩
  replace HT := Lib.hid (HT.out.via hB)
  replace HB := Lib.hid (belowStep HB.out hB)
  have HU := Lib.hid hu
  have VU := Lib.hid vu
  have HV := Lib.hid ht
  have VT := Lib.hid vt
  obtain ⟨ar, cr, rfl⟩ : ∃ a c, r = .slice a u.shape.length c := by obtain ⟨⟨a, c, h, _⟩, _⟩ := hu.at_; exact ⟨a, c, h⟩
  obtain ⟨at1, ct1, rfl⟩ : ∃ a c, s = .slice a t.shape.length c := by obtain ⟨⟨a, c, h, _⟩, _⟩ := ht.at_; exact ⟨a, c, h⟩
  clear hu ht vt vu hB H1 H2 HH HA HX HY HA2
  unfold uv
  go_upto_region 5 with fail
  obtain ⟨v1, hv1⟩ : ∃ v : World, v = (w2.alloc (.cells #[.int .i64 u.id, .int .i64 u.kind, .int .i64 u.mat, .slice ar u.shape.length cr, .int .i64 u.back, .int .i64 u.front] 27)).alloc (.cells #[.int .i64 t.id, .int .i64 t.kind, .int .i64 t.mat, .slice at1 t.shape.length ct1, .int .i64 t.back, .int .i64 t.front] 27) := ⟨_, rfl⟩
  have hB1 : Below w2.heap.size w2 (w2.alloc (.cells #[.int .i64 u.id, .int .i64 u.kind, .int .i64 u.mat, .slice ar u.shape.length cr, .int .i64 u.back, .int .i64 u.front] 27)) := alloc_below _ _
  have hB2 : Below (w2.alloc (.cells #[.int .i64 u.id, .int .i64 u.kind, .int .i64 u.mat, .slice ar u.shape.length cr, .int .i64 u.back, .int .i64 u.front] 27)).heap.size (w2.alloc (.cells #[.int .i64 u.id, .int .i64 u.kind, .int .i64 u.mat, .slice ar u.shape.length cr, .int .i64 u.back, .int .i64 u.front] 27)) v1 := by rw [hv1]; exact alloc_below _ _
  have hs1 : (w2.alloc (.cells #[.int .i64 u.id, .int .i64 u.kind, .int .i64 u.mat, .slice ar u.shape.length cr, .int .i64 u.back, .int .i64 u.front] 27)).heap.size = w2.heap.size + 1 := by simp
  have HX1 : Hid (v1.heap[w2.heap.size]? = some (.cells #[.int .i64 u.id, .int .i64 u.kind, .int .i64 u.mat, .slice ar u.shape.length cr, .int .i64 u.back, .int .i64 u.front] 27 (0, 0))) := Lib.hid (heap_below hB2 (heap_alloc_new w2 (.cells #[.int .i64 u.id, .int .i64 u.kind, .int .i64 u.mat, .slice ar u.shape.length cr, .int .i64 u.back, .int .i64 u.front] 27)))
  have HX2 : Hid (v1.heap[w2.heap.size + 1]? = some (.cells #[.int .i64 t.id, .int .i64 t.kind, .int .i64 t.mat, .slice at1 t.shape.length ct1, .int .i64 t.back, .int .i64 t.front] 27 (0, 0))) := Lib.hid (by rw [← hs1, hv1]; exact heap_alloc_new _ _)
  have HZ : Hid (w2.heap.size + 2 ≤ v1.heap.size) := Lib.hid (by rw [hv1]; simp)
  have hB := belowStep hB1 hB2
  rw [← hv1]
  clear hB1 hB2 hs1 hv1
  replace HU := Lib.hid (HU.out.via hB)
  replace HV := Lib.hid (HV.out.via hB)
  replace HT := Lib.hid (HT.out.via hB)
  replace HB := Lib.hid (belowStep HB.out hB)
  clear hB
  rcases ho : touU u t with _ | ⟨⟨P1, P2⟩, ⟨Q1, Q2⟩⟩
  · have HE1 : Hid (touV u t = .tuple #[.agg #[.int .i64 0, .int .i64 0, .int .i64 0, .int .i64 0, .int .i64 0, .int .i64 0, .int .i64 0, .int .i64 0], .bool false]) := Lib.hid (by unfold touV; rw [ho]; rfl)
    have HE2 : Hid (touV t u = .tuple #[.agg #[.int .i64 0, .int .i64 0, .int .i64 0, .int .i64 0, .int .i64 0, .int .i64 0, .int .i64 0, .int .i64 0], .bool false]) := Lib.hid (by unfold touV; rw [tou_swap VU.out VT.out, ho]; rfl)
    have HOV : Hid (overU t u = overU u t) := Lib.hid (over_swap VU.out VT.out)
    clear ho
    have x0 := cell_heap HX1.out (i := 0) rfl
    have x1 := cell_heap HX1.out (i := 1) rfl
    have x2 := cell_heap HX1.out (i := 2) rfl
    have x3 := cell_heap HX1.out (i := 3) rfl
    have x4 := cell_heap HX1.out (i := 4) rfl
    have x5 := cell_heap HX1.out (i := 5) rfl
    have y0 := cell_heap HX2.out (i := 0) rfl
    have y1 := cell_heap HX2.out (i := 1) rfl
    have y2 := cell_heap HX2.out (i := 2) rfl
    have y3 := cell_heap HX2.out (i := 3) rfl
    have y4 := cell_heap HX2.out (i := 4) rfl
    have y5 := cell_heap HX2.out (i := 5) rfl
    go_wp2_with fail
    clear x0 x1 x2 x3 x4 x5
    clear y0 y1 y2 y3 y4 y5
    have hc := touch_w u t _ _ _ HU.out HV.out
    rw [HE1.out] at hc
    refine hc.mono ?_
    clear hc
    rintro e w3 ⟨rfl, hB⟩
    replace HU := Lib.hid (HU.out.via hB)
    replace HV := Lib.hid (HV.out.via hB)
    replace HT := Lib.hid (HT.out.via hB)
    replace HX1 := Lib.hid (heap_below hB HX1.out)
    replace HX2 := Lib.hid (heap_below hB HX2.out)
    replace HB := Lib.hid (belowStep HB.out hB)
    clear hB
    have hB := alloc_below w3 (.cells #[.int .i64 0, .int .i64 0, .int .i64 0, .int .i64 0, .int .i64 0, .int .i64 0, .int .i64 0, .int .i64 0] 42)
    have HX3 := Lib.hid (heap_alloc_new w3 (.cells #[.int .i64 0, .int .i64 0, .int .i64 0, .int .i64 0, .int .i64 0, .int .i64 0, .int .i64 0, .int .i64 0] 42))
    replace HU := Lib.hid (HU.out.via hB)
    replace HV := Lib.hid (HV.out.via hB)
    replace HT := Lib.hid (HT.out.via hB)
    replace HX1 := Lib.hid (heap_below hB HX1.out)
    replace HX2 := Lib.hid (heap_below hB HX2.out)
    replace HB := Lib.hid (belowStep HB.out hB)
    clear hB
    have x0 := cell_heap HX1.out (i := 0) rfl
    have x1 := cell_heap HX1.out (i := 1) rfl
    have x2 := cell_heap HX1.out (i := 2) rfl
    have x3 := cell_heap HX1.out (i := 3) rfl
    have x4 := cell_heap HX1.out (i := 4) rfl
    have x5 := cell_heap HX1.out (i := 5) rfl
    have y0 := cell_heap HX2.out (i := 0) rfl
    have y1 := cell_heap HX2.out (i := 1) rfl
    have y2 := cell_heap HX2.out (i := 2) rfl
    have y3 := cell_heap HX2.out (i := 3) rfl
    have y4 := cell_heap HX2.out (i := 4) rfl
    have y5 := cell_heap HX2.out (i := 5) rfl
    go_wp2_with fail
    clear x0 x1 x2 x3 x4 x5
    clear y0 y1 y2 y3 y4 y5
    have hc := touch_w t u _ _ _ HV.out HU.out
    rw [HE2.out] at hc
    refine hc.mono ?_
    clear hc
    rintro e w4 ⟨rfl, hB⟩
    replace HU := Lib.hid (HU.out.via hB)
    replace HV := Lib.hid (HV.out.via hB)
    replace HT := Lib.hid (HT.out.via hB)
    replace HX1 := Lib.hid (heap_below hB HX1.out)
    replace HX2 := Lib.hid (heap_below hB HX2.out)
    replace HX3 := Lib.hid (heap_below hB HX3.out)
    replace HB := Lib.hid (belowStep HB.out hB)
    clear hB
    have hB := alloc_below w4 (.cells #[.int .i64 0, .int .i64 0, .int .i64 0, .int .i64 0, .int .i64 0, .int .i64 0, .int .i64 0, .int .i64 0] 42)
    have HX4 := Lib.hid (heap_alloc_new w4 (.cells #[.int .i64 0, .int .i64 0, .int .i64 0, .int .i64 0, .int .i64 0, .int .i64 0, .int .i64 0, .int .i64 0] 42))
    replace HU := Lib.hid (HU.out.via hB)
    replace HV := Lib.hid (HV.out.via hB)
    replace HT := Lib.hid (HT.out.via hB)
    replace HX1 := Lib.hid (heap_below hB HX1.out)
    replace HX2 := Lib.hid (heap_below hB HX2.out)
    replace HX3 := Lib.hid (heap_below hB HX3.out)
    replace HB := Lib.hid (belowStep HB.out hB)
    clear hB
    have z0 := cell_heap HX4.out (i := 0) rfl
    have z1 := cell_heap HX4.out (i := 1) rfl
    have z2 := cell_heap HX4.out (i := 2) rfl
    have z3 := cell_heap HX4.out (i := 3) rfl
    have z4 := cell_heap HX4.out (i := 4) rfl
    have z5 := cell_heap HX4.out (i := 5) rfl
    have z6 := cell_heap HX4.out (i := 6) rfl
    have z7 := cell_heap HX4.out (i := 7) rfl
    go_upto_region 8 with fail
    clear z0 z1 z2 z3 z4 z5 z6 z7
    have hB := alloc_below (w4.alloc (.cells #[.int .i64 0, .int .i64 0, .int .i64 0, .int .i64 0, .int .i64 0, .int .i64 0, .int .i64 0, .int .i64 0] 42)) (.cells #[.int .i64 0, .int .i64 0, .int .i64 0, .int .i64 0, .int .i64 0, .int .i64 0, .int .i64 0, .int .i64 0] 42)
    have HX5 := Lib.hid (heap_alloc_new (w4.alloc (.cells #[.int .i64 0, .int .i64 0, .int .i64 0, .int .i64 0, .int .i64 0, .int .i64 0, .int .i64 0, .int .i64 0] 42)) (.cells #[.int .i64 0, .int .i64 0, .int .i64 0, .int .i64 0, .int .i64 0, .int .i64 0, .int .i64 0, .int .i64 0] 42))
    replace HU := Lib.hid (HU.out.via hB)
    replace HV := Lib.hid (HV.out.via hB)
    replace HT := Lib.hid (HT.out.via hB)
    replace HX1 := Lib.hid (heap_below hB HX1.out)
    replace HX2 := Lib.hid (heap_below hB HX2.out)
    replace HX3 := Lib.hid (heap_below hB HX3.out)
    replace HX4 := Lib.hid (heap_below hB HX4.out)
    replace HB := Lib.hid (belowStep HB.out hB)
    clear hB
    have hs5 : (w4.alloc (.cells #[.int .i64 0, .int .i64 0, .int .i64 0, .int .i64 0, .int .i64 0, .int .i64 0, .int .i64 0, .int .i64 0] 42)).heap.size = w4.heap.size + 1 := by simp
    rw [hs5] at HX5
    clear hs5
    refine (wpIn_wide (n := 5)).1 ?_
    refine wpIn_region_T (fun w' => Below ((w4.alloc (.cells #[.int .i64 0, .int .i64 0, .int .i64 0, .int .i64 0, .int .i64 0, .int .i64 0, .int .i64 0, .int .i64 0] 42)).alloc (.cells #[.int .i64 0, .int .i64 0, .int .i64 0, .int .i64 0, .int .i64 0, .int .i64 0, .int .i64 0, .int .i64 0] 42)).drew.heap.size ((w4.alloc (.cells #[.int .i64 0, .int .i64 0, .int .i64 0, .int .i64 0, .int .i64 0, .int .i64 0, .int .i64 0, .int .i64 0] 42)).alloc (.cells #[.int .i64 0, .int .i64 0, .int .i64 0, .int .i64 0, .int .i64 0, .int .i64 0, .int .i64 0, .int .i64 0] 42)).drew w') 19 (by kernel_rfl) ?_
    have hB : Below ((w4.alloc (.cells #[.int .i64 0, .int .i64 0, .int .i64 0, .int .i64 0, .int .i64 0, .int .i64 0, .int .i64 0, .int .i64 0] 42)).alloc (.cells #[.int .i64 0, .int .i64 0, .int .i64 0, .int .i64 0, .int .i64 0, .int .i64 0, .int .i64 0, .int .i64 0] 42)).heap.size ((w4.alloc (.cells #[.int .i64 0, .int .i64 0, .int .i64 0, .int .i64 0, .int .i64 0, .int .i64 0, .int .i64 0, .int .i64 0] 42)).alloc (.cells #[.int .i64 0, .int .i64 0, .int .i64 0, .int .i64 0, .int .i64 0, .int .i64 0, .int .i64 0, .int .i64 0] 42)) ((w4.alloc (.cells #[.int .i64 0, .int .i64 0, .int .i64 0, .int .i64 0, .int .i64 0, .int .i64 0, .int .i64 0, .int .i64 0] 42)).alloc (.cells #[.int .i64 0, .int .i64 0, .int .i64 0, .int .i64 0, .int .i64 0, .int .i64 0, .int .i64 0, .int .i64 0] 42)).drew := (Below.refl _ _).drew
    obtain ⟨wd, hwd⟩ : ∃ v : World, v = ((w4.alloc (.cells #[.int .i64 0, .int .i64 0, .int .i64 0, .int .i64 0, .int .i64 0, .int .i64 0, .int .i64 0, .int .i64 0] 42)).alloc (.cells #[.int .i64 0, .int .i64 0, .int .i64 0, .int .i64 0, .int .i64 0, .int .i64 0, .int .i64 0, .int .i64 0] 42)).drew := ⟨_, rfl⟩
    rw [← hwd] at hB ⊢
    clear hwd
    replace HU := Lib.hid (HU.out.via hB)
    replace HV := Lib.hid (HV.out.via hB)
    replace HT := Lib.hid (HT.out.via hB)
    replace HX1 := Lib.hid (heap_below hB HX1.out)
    replace HX2 := Lib.hid (heap_below hB HX2.out)
    replace HX3 := Lib.hid (heap_below hB HX3.out)
    replace HX4 := Lib.hid (heap_below hB HX4.out)
    replace HX5 := Lib.hid (heap_below hB HX5.out)
    replace HB := Lib.hid (belowStep HB.out hB)
    clear hB
    have x0 := cell_heap HX1.out (i := 0) rfl
    have x1 := cell_heap HX1.out (i := 1) rfl
    have x2 := cell_heap HX1.out (i := 2) rfl
    have x3 := cell_heap HX1.out (i := 3) rfl
    have x4 := cell_heap HX1.out (i := 4) rfl
    have x5 := cell_heap HX1.out (i := 5) rfl
    have y0 := cell_heap HX2.out (i := 0) rfl
    have y1 := cell_heap HX2.out (i := 1) rfl
    have y2 := cell_heap HX2.out (i := 2) rfl
    have y3 := cell_heap HX2.out (i := 3) rfl
    have y4 := cell_heap HX2.out (i := 4) rfl
    have y5 := cell_heap HX2.out (i := 5) rfl
    refine wpT_tk 0 61 (v := ?_) (Below.refl _ _) rfl rfl (by rfl) (hy := fun w hw => ?_) (h := ?_)
    rotate_left
    · go_simp; with_reducible rfl
    try simp only [Act.put, List.setIfInBounds_toArray, List.set_cons_zero, List.set_cons_succ]
    refine wpT_tk 1 62 (v := ?_) (Below.refl _ _) rfl rfl (by rfl) (hy := fun w hw => ?_) (h := ?_)
    rotate_left
    · go_simp; with_reducible rfl
    try simp only [Act.put, List.setIfInBounds_toArray, List.set_cons_zero, List.set_cons_succ]
    refine wpT_tk 2 63 (v := ?_) (Below.refl _ _) rfl rfl (by rfl) (hy := fun w hw => ?_) (h := ?_)
    rotate_left
    · go_simp; with_reducible rfl
    try simp only [Act.put, List.setIfInBounds_toArray, List.set_cons_zero, List.set_cons_succ]
    refine wpT_tk 3 64 (v := ?_) (Below.refl _ _) rfl rfl (by rfl) (hy := fun w hw => ?_) (h := ?_)
    rotate_left
    · go_simp; with_reducible rfl
    try simp only [Act.put, List.setIfInBounds_toArray, List.set_cons_zero, List.set_cons_succ]
    refine wpT_tk 4 65 (v := ?_) (Below.refl _ _) rfl rfl (by rfl) (hy := fun w hw => ?_) (h := ?_)
    rotate_left
    · have x0 := keptBelow hw x0; have x1 := keptBelow hw x1; have x2 := keptBelow hw x2; have x3 := keptBelow hw x3; have x4 := keptBelow hw x4; have x5 := keptBelow hw x5; go_simp; with_reducible rfl
    try simp only [Act.put, List.setIfInBounds_toArray, List.set_cons_zero, List.set_cons_succ]
    refine wpT_tk 5 66 (v := ?_) (Below.refl _ _) rfl rfl (by rfl) (hy := fun w hw => ?_) (h := ?_)
    rotate_left
    · have y0 := keptBelow hw y0; have y1 := keptBelow hw y1; have y2 := keptBelow hw y2; have y3 := keptBelow hw y3; have y4 := keptBelow hw y4; have y5 := keptBelow hw y5; go_simp; with_reducible rfl
    try simp only [Act.put, List.setIfInBounds_toArray, List.set_cons_zero, List.set_cons_succ]
    refine wpT_tk 7 68 (v := ?_) (Below.refl _ _) rfl rfl (by rfl) (hy := fun w hw => ?_) (h := ?_)
    rotate_left
    · have y0 := keptBelow hw y0; have y1 := keptBelow hw y1; have y2 := keptBelow hw y2; have y3 := keptBelow hw y3; have y4 := keptBelow hw y4; have y5 := keptBelow hw y5; go_simp; with_reducible rfl
    try simp only [Act.put, List.setIfInBounds_toArray, List.set_cons_zero, List.set_cons_succ]
    refine wpT_tk 8 69 (v := ?_) (Below.refl _ _) rfl rfl (by rfl) (hy := fun w hw => ?_) (h := ?_)
    rotate_left
    · have x0 := keptBelow hw x0; have x1 := keptBelow hw x1; have x2 := keptBelow hw x2; have x3 := keptBelow hw x3; have x4 := keptBelow hw x4; have x5 := keptBelow hw x5; go_simp; with_reducible rfl
    try simp only [Act.put, List.setIfInBounds_toArray, List.set_cons_zero, List.set_cons_succ]
    refine wpT_oneW 6 rfl (by rfl) (by kernel_rfl) ?_
    go_simp
    refine ⟨trivial, ?_⟩
    have hc := overU_w u t _ _ _ HU.out HV.out
    refine (callsIn_wide.2 hc).mono ?_
    clear hc
    rintro e wa ⟨rfl, hB⟩
    have hS := hB
    clear hB
    refine ⟨hS, ?_⟩
    refine wpT_oneW 9 rfl (by rfl) (by kernel_rfl) ?_
    go_simp
    refine ⟨trivial, ?_⟩
    have hc := overU_w t u _ _ _ (HV.out.via hS) (HU.out.via hS)
    rw [HOV.out] at hc
    refine (callsIn_wide.2 hc).mono ?_
    clear hc
    rintro e wb ⟨rfl, hB⟩
    replace hS := belowStep hS hB
    clear hB
    refine ⟨hS, ?_⟩
    obtain ⟨ov, hov⟩ : ∃ ov, ov = overU u t := ⟨_, rfl⟩
    rw [← hov]
    clear hov
    refine wpT_tk 10 71 (v := ?_) hS rfl rfl (by rfl) (hy := fun w hw => ?_) (h := ?_)
    rotate_left
    · go_simp; with_reducible rfl
    try simp only [Act.put, List.setIfInBounds_toArray, List.set_cons_zero, List.set_cons_succ]
    refine wpT_tk 11 72 (v := ?_) hS rfl rfl (by rfl) (hy := fun w hw => ?_) (h := ?_)
    rotate_left
    · go_simp; with_reducible rfl
    try simp only [Act.put, List.setIfInBounds_toArray, List.set_cons_zero, List.set_cons_succ]
    refine wpT_tk 12 73 (v := ?_) hS rfl rfl (by rfl) (hy := fun w hw => ?_) (h := ?_)
    rotate_left
    · go_simp; with_reducible rfl
    try simp only [Act.put, List.setIfInBounds_toArray, List.set_cons_zero, List.set_cons_succ]
    refine wpT_tk 13 74 (v := ?_) hS rfl rfl (by rfl) (hy := fun w hw => ?_) (h := ?_)
    rotate_left
    · go_simp; with_reducible rfl
    try simp only [Act.put, List.setIfInBounds_toArray, List.set_cons_zero, List.set_cons_succ]
    refine wpT_tk 14 75 (v := ?_) hS rfl rfl (by rfl) (hy := fun w hw => ?_) (h := ?_)
    rotate_left
    · go_simp; with_reducible rfl
    try simp only [Act.put, List.setIfInBounds_toArray, List.set_cons_zero, List.set_cons_succ]
    refine wpT_skip 15 76 hS rfl rfl (by rfl) (h := ?_)
    try simp only [Act.put, List.setIfInBounds_toArray, List.set_cons_zero, List.set_cons_succ]
    refine wpT_skip 16 77 hS rfl rfl (by rfl) (h := ?_)
    try simp only [Act.put, List.setIfInBounds_toArray, List.set_cons_zero, List.set_cons_succ]
    refine wpT_oneSkip 17 rfl (by rfl) (by kernel_rfl) (fun _ _ => trivial) (fun _ => hS) ?_
    try simp only [Act.put, List.setIfInBounds_toArray, List.set_cons_zero, List.set_cons_succ]
    refine wpT_tk 18 79 (v := ?_) hS rfl rfl (by rfl) (hy := fun w hw => ?_) (h := ?_)
    rotate_left
    · go_simp; with_reducible rfl
    try simp only [Act.put, List.setIfInBounds_toArray, List.set_cons_zero, List.set_cons_succ]
    refine wpT_oneW 19 rfl (by rfl) (by kernel_rfl) ?_
    go_simp
    try refine ⟨(fun h => by cases h), ?_⟩
    refine wpT_done (by kernel_rfl) ?_ _
    clear x0 y0 x1 y1 x2 y2 x3 y3 x4 y4 x5 y5
    have hB := hS
    clear hS
    replace HU := Lib.hid (HU.out.via hB)
    replace HV := Lib.hid (HV.out.via hB)
    replace HT := Lib.hid (HT.out.via hB)
    replace HX1 := Lib.hid (heap_below hB HX1.out)
    replace HX2 := Lib.hid (heap_below hB HX2.out)
    replace HX3 := Lib.hid (heap_below hB HX3.out)
    replace HX4 := Lib.hid (heap_below hB HX4.out)
    replace HX5 := Lib.hid (heap_below hB HX5.out)
    replace HB := Lib.hid (belowStep HB.out hB)
    clear hB
    have z0 := cell_heap HX3.out (i := 0) rfl
    have z1 := cell_heap HX3.out (i := 1) rfl
    have z2 := cell_heap HX3.out (i := 2) rfl
    have z3 := cell_heap HX3.out (i := 3) rfl
    have z4 := cell_heap HX3.out (i := 4) rfl
    have z5 := cell_heap HX3.out (i := 5) rfl
    have z6 := cell_heap HX3.out (i := 6) rfl
    have z7 := cell_heap HX3.out (i := 7) rfl
    have y0 := cell_heap HX4.out (i := 0) rfl
    have y1 := cell_heap HX4.out (i := 1) rfl
    have y2 := cell_heap HX4.out (i := 2) rfl
    have y3 := cell_heap HX4.out (i := 3) rfl
    have y4 := cell_heap HX4.out (i := 4) rfl
    have y5 := cell_heap HX4.out (i := 5) rfl
    have y6 := cell_heap HX4.out (i := 6) rfl
    have y7 := cell_heap HX4.out (i := 7) rfl
    go_wp2_with fail
    go_ret
    exact ⟨rfl, HB.out⟩
  · obtain ⟨bk, hbk⟩ : ∃ b, bckP u t = b := ⟨_, rfl⟩
    obtain ⟨fr, hfr⟩ : ∃ b, frtP u t = b := ⟨_, rfl⟩
    have HE1 : Hid (touV u t = .tuple #[.agg #[.int .i64 u.id, .int .i64 t.id, .int .i64 P1, .int .i64 P2, .int .i64 Q1, .int .i64 Q2, .int .i64 bk, .int .i64 fr], .bool true]) := Lib.hid (by unfold touV; rw [ho, hbk, hfr]; rfl)
    have HE2 : Hid (touV t u = .tuple #[.agg #[.int .i64 t.id, .int .i64 u.id, .int .i64 Q1, .int .i64 Q2, .int .i64 P1, .int .i64 P2, .int .i64 bk, .int .i64 fr], .bool true]) := Lib.hid (by unfold touV; rw [tou_swap VU.out VT.out, ho, bck_swap u t, frt_swap u t, hbk, hfr]; rfl)
    have HOV : Hid (overU t u = overU u t) := Lib.hid (over_swap VU.out VT.out)
    have HF := Lib.hid (tou_f VU.out VT.out ho)
    have HBK := Lib.hid hbk
    have HFR := Lib.hid hfr
    clear hbk hfr
    clear ho
    have x0 := cell_heap HX1.out (i := 0) rfl
    have x1 := cell_heap HX1.out (i := 1) rfl
    have x2 := cell_heap HX1.out (i := 2) rfl
    have x3 := cell_heap HX1.out (i := 3) rfl
    have x4 := cell_heap HX1.out (i := 4) rfl
    have x5 := cell_heap HX1.out (i := 5) rfl
    have y0 := cell_heap HX2.out (i := 0) rfl
    have y1 := cell_heap HX2.out (i := 1) rfl
    have y2 := cell_heap HX2.out (i := 2) rfl
    have y3 := cell_heap HX2.out (i := 3) rfl
    have y4 := cell_heap HX2.out (i := 4) rfl
    have y5 := cell_heap HX2.out (i := 5) rfl
    go_wp2_with fail
    clear x0 x1 x2 x3 x4 x5
    clear y0 y1 y2 y3 y4 y5
    have hc := touch_w u t _ _ _ HU.out HV.out
    rw [HE1.out] at hc
    refine hc.mono ?_
    clear hc
    rintro e w3 ⟨rfl, hB⟩
    replace HU := Lib.hid (HU.out.via hB)
    replace HV := Lib.hid (HV.out.via hB)
    replace HT := Lib.hid (HT.out.via hB)
    replace HX1 := Lib.hid (heap_below hB HX1.out)
    replace HX2 := Lib.hid (heap_below hB HX2.out)
    replace HB := Lib.hid (belowStep HB.out hB)
    clear hB
    have hB := alloc_below w3 (.cells #[.int .i64 u.id, .int .i64 t.id, .int .i64 P1, .int .i64 P2, .int .i64 Q1, .int .i64 Q2, .int .i64 bk, .int .i64 fr] 42)
    have HX3 := Lib.hid (heap_alloc_new w3 (.cells #[.int .i64 u.id, .int .i64 t.id, .int .i64 P1, .int .i64 P2, .int .i64 Q1, .int .i64 Q2, .int .i64 bk, .int .i64 fr] 42))
    replace HU := Lib.hid (HU.out.via hB)
    replace HV := Lib.hid (HV.out.via hB)
    replace HT := Lib.hid (HT.out.via hB)
    replace HX1 := Lib.hid (heap_below hB HX1.out)
    replace HX2 := Lib.hid (heap_below hB HX2.out)
    replace HB := Lib.hid (belowStep HB.out hB)
    clear hB
    have x0 := cell_heap HX1.out (i := 0) rfl
    have x1 := cell_heap HX1.out (i := 1) rfl
    have x2 := cell_heap HX1.out (i := 2) rfl
    have x3 := cell_heap HX1.out (i := 3) rfl
    have x4 := cell_heap HX1.out (i := 4) rfl
    have x5 := cell_heap HX1.out (i := 5) rfl
    have y0 := cell_heap HX2.out (i := 0) rfl
    have y1 := cell_heap HX2.out (i := 1) rfl
    have y2 := cell_heap HX2.out (i := 2) rfl
    have y3 := cell_heap HX2.out (i := 3) rfl
    have y4 := cell_heap HX2.out (i := 4) rfl
    have y5 := cell_heap HX2.out (i := 5) rfl
    go_wp2_with fail
    clear x0 x1 x2 x3 x4 x5
    clear y0 y1 y2 y3 y4 y5
    have hc := touch_w t u _ _ _ HV.out HU.out
    rw [HE2.out] at hc
    refine hc.mono ?_
    clear hc
    rintro e w4 ⟨rfl, hB⟩
    replace HU := Lib.hid (HU.out.via hB)
    replace HV := Lib.hid (HV.out.via hB)
    replace HT := Lib.hid (HT.out.via hB)
    replace HX1 := Lib.hid (heap_below hB HX1.out)
    replace HX2 := Lib.hid (heap_below hB HX2.out)
    replace HX3 := Lib.hid (heap_below hB HX3.out)
    replace HB := Lib.hid (belowStep HB.out hB)
    clear hB
    have hB := alloc_below w4 (.cells #[.int .i64 t.id, .int .i64 u.id, .int .i64 Q1, .int .i64 Q2, .int .i64 P1, .int .i64 P2, .int .i64 bk, .int .i64 fr] 42)
    have HX4 := Lib.hid (heap_alloc_new w4 (.cells #[.int .i64 t.id, .int .i64 u.id, .int .i64 Q1, .int .i64 Q2, .int .i64 P1, .int .i64 P2, .int .i64 bk, .int .i64 fr] 42))
    replace HU := Lib.hid (HU.out.via hB)
    replace HV := Lib.hid (HV.out.via hB)
    replace HT := Lib.hid (HT.out.via hB)
    replace HX1 := Lib.hid (heap_below hB HX1.out)
    replace HX2 := Lib.hid (heap_below hB HX2.out)
    replace HX3 := Lib.hid (heap_below hB HX3.out)
    replace HB := Lib.hid (belowStep HB.out hB)
    clear hB
    have z0 := cell_heap HX4.out (i := 0) rfl
    have z1 := cell_heap HX4.out (i := 1) rfl
    have z2 := cell_heap HX4.out (i := 2) rfl
    have z3 := cell_heap HX4.out (i := 3) rfl
    have z4 := cell_heap HX4.out (i := 4) rfl
    have z5 := cell_heap HX4.out (i := 5) rfl
    have z6 := cell_heap HX4.out (i := 6) rfl
    have z7 := cell_heap HX4.out (i := 7) rfl
    go_upto_region 8 with fail
    clear z0 z1 z2 z3 z4 z5 z6 z7
    have hB := alloc_below (w4.alloc (.cells #[.int .i64 t.id, .int .i64 u.id, .int .i64 Q1, .int .i64 Q2, .int .i64 P1, .int .i64 P2, .int .i64 bk, .int .i64 fr] 42)) (.cells #[.int .i64 u.id, .int .i64 t.id, .int .i64 P1, .int .i64 P2, .int .i64 Q1, .int .i64 Q2, .int .i64 bk, .int .i64 fr] 42)
    have HX5 := Lib.hid (heap_alloc_new (w4.alloc (.cells #[.int .i64 t.id, .int .i64 u.id, .int .i64 Q1, .int .i64 Q2, .int .i64 P1, .int .i64 P2, .int .i64 bk, .int .i64 fr] 42)) (.cells #[.int .i64 u.id, .int .i64 t.id, .int .i64 P1, .int .i64 P2, .int .i64 Q1, .int .i64 Q2, .int .i64 bk, .int .i64 fr] 42))
    replace HU := Lib.hid (HU.out.via hB)
    replace HV := Lib.hid (HV.out.via hB)
    replace HT := Lib.hid (HT.out.via hB)
    replace HX1 := Lib.hid (heap_below hB HX1.out)
    replace HX2 := Lib.hid (heap_below hB HX2.out)
    replace HX3 := Lib.hid (heap_below hB HX3.out)
    replace HX4 := Lib.hid (heap_below hB HX4.out)
    replace HB := Lib.hid (belowStep HB.out hB)
    clear hB
    have hs5 : (w4.alloc (.cells #[.int .i64 t.id, .int .i64 u.id, .int .i64 Q1, .int .i64 Q2, .int .i64 P1, .int .i64 P2, .int .i64 bk, .int .i64 fr] 42)).heap.size = w4.heap.size + 1 := by simp
    rw [hs5] at HX5
    clear hs5
    refine (wpIn_wide (n := 5)).1 ?_
    refine wpIn_region_T (fun w' => Below ((w4.alloc (.cells #[.int .i64 t.id, .int .i64 u.id, .int .i64 Q1, .int .i64 Q2, .int .i64 P1, .int .i64 P2, .int .i64 bk, .int .i64 fr] 42)).alloc (.cells #[.int .i64 u.id, .int .i64 t.id, .int .i64 P1, .int .i64 P2, .int .i64 Q1, .int .i64 Q2, .int .i64 bk, .int .i64 fr] 42)).drew.heap.size ((w4.alloc (.cells #[.int .i64 t.id, .int .i64 u.id, .int .i64 Q1, .int .i64 Q2, .int .i64 P1, .int .i64 P2, .int .i64 bk, .int .i64 fr] 42)).alloc (.cells #[.int .i64 u.id, .int .i64 t.id, .int .i64 P1, .int .i64 P2, .int .i64 Q1, .int .i64 Q2, .int .i64 bk, .int .i64 fr] 42)).drew w') 19 (by kernel_rfl) ?_
    have hB : Below ((w4.alloc (.cells #[.int .i64 t.id, .int .i64 u.id, .int .i64 Q1, .int .i64 Q2, .int .i64 P1, .int .i64 P2, .int .i64 bk, .int .i64 fr] 42)).alloc (.cells #[.int .i64 u.id, .int .i64 t.id, .int .i64 P1, .int .i64 P2, .int .i64 Q1, .int .i64 Q2, .int .i64 bk, .int .i64 fr] 42)).heap.size ((w4.alloc (.cells #[.int .i64 t.id, .int .i64 u.id, .int .i64 Q1, .int .i64 Q2, .int .i64 P1, .int .i64 P2, .int .i64 bk, .int .i64 fr] 42)).alloc (.cells #[.int .i64 u.id, .int .i64 t.id, .int .i64 P1, .int .i64 P2, .int .i64 Q1, .int .i64 Q2, .int .i64 bk, .int .i64 fr] 42)) ((w4.alloc (.cells #[.int .i64 t.id, .int .i64 u.id, .int .i64 Q1, .int .i64 Q2, .int .i64 P1, .int .i64 P2, .int .i64 bk, .int .i64 fr] 42)).alloc (.cells #[.int .i64 u.id, .int .i64 t.id, .int .i64 P1, .int .i64 P2, .int .i64 Q1, .int .i64 Q2, .int .i64 bk, .int .i64 fr] 42)).drew := (Below.refl _ _).drew
    obtain ⟨wd, hwd⟩ : ∃ v : World, v = ((w4.alloc (.cells #[.int .i64 t.id, .int .i64 u.id, .int .i64 Q1, .int .i64 Q2, .int .i64 P1, .int .i64 P2, .int .i64 bk, .int .i64 fr] 42)).alloc (.cells #[.int .i64 u.id, .int .i64 t.id, .int .i64 P1, .int .i64 P2, .int .i64 Q1, .int .i64 Q2, .int .i64 bk, .int .i64 fr] 42)).drew := ⟨_, rfl⟩
    rw [← hwd] at hB ⊢
    clear hwd
    replace HU := Lib.hid (HU.out.via hB)
    replace HV := Lib.hid (HV.out.via hB)
    replace HT := Lib.hid (HT.out.via hB)
    replace HX1 := Lib.hid (heap_below hB HX1.out)
    replace HX2 := Lib.hid (heap_below hB HX2.out)
    replace HX3 := Lib.hid (heap_below hB HX3.out)
    replace HX4 := Lib.hid (heap_below hB HX4.out)
    replace HX5 := Lib.hid (heap_below hB HX5.out)
    replace HB := Lib.hid (belowStep HB.out hB)
    clear hB
    have x0 := cell_heap HX1.out (i := 0) rfl
    have x1 := cell_heap HX1.out (i := 1) rfl
    have x2 := cell_heap HX1.out (i := 2) rfl
    have x3 := cell_heap HX1.out (i := 3) rfl
    have x4 := cell_heap HX1.out (i := 4) rfl
    have x5 := cell_heap HX1.out (i := 5) rfl
    have y0 := cell_heap HX2.out (i := 0) rfl
    have y1 := cell_heap HX2.out (i := 1) rfl
    have y2 := cell_heap HX2.out (i := 2) rfl
    have y3 := cell_heap HX2.out (i := 3) rfl
    have y4 := cell_heap HX2.out (i := 4) rfl
    have y5 := cell_heap HX2.out (i := 5) rfl
    refine wpT_tk 0 61 (v := ?_) (Below.refl _ _) rfl rfl (by rfl) (hy := fun w hw => ?_) (h := ?_)
    rotate_left
    · go_simp; with_reducible rfl
    try simp only [Act.put, List.setIfInBounds_toArray, List.set_cons_zero, List.set_cons_succ]
    refine wpT_tk 1 62 (v := ?_) (Below.refl _ _) rfl rfl (by rfl) (hy := fun w hw => ?_) (h := ?_)
    rotate_left
    · go_simp; with_reducible rfl
    try simp only [Act.put, List.setIfInBounds_toArray, List.set_cons_zero, List.set_cons_succ]
    refine wpT_tk 2 63 (v := ?_) (Below.refl _ _) rfl rfl (by rfl) (hy := fun w hw => ?_) (h := ?_)
    rotate_left
    · go_simp; with_reducible rfl
    try simp only [Act.put, List.setIfInBounds_toArray, List.set_cons_zero, List.set_cons_succ]
    refine wpT_tk 3 64 (v := ?_) (Below.refl _ _) rfl rfl (by rfl) (hy := fun w hw => ?_) (h := ?_)
    rotate_left
    · go_simp; with_reducible rfl
    try simp only [Act.put, List.setIfInBounds_toArray, List.set_cons_zero, List.set_cons_succ]
    refine wpT_tk 4 65 (v := ?_) (Below.refl _ _) rfl rfl (by rfl) (hy := fun w hw => ?_) (h := ?_)
    rotate_left
    · have x0 := keptBelow hw x0; have x1 := keptBelow hw x1; have x2 := keptBelow hw x2; have x3 := keptBelow hw x3; have x4 := keptBelow hw x4; have x5 := keptBelow hw x5; go_simp; with_reducible rfl
    try simp only [Act.put, List.setIfInBounds_toArray, List.set_cons_zero, List.set_cons_succ]
    refine wpT_tk 5 66 (v := ?_) (Below.refl _ _) rfl rfl (by rfl) (hy := fun w hw => ?_) (h := ?_)
    rotate_left
    · have y0 := keptBelow hw y0; have y1 := keptBelow hw y1; have y2 := keptBelow hw y2; have y3 := keptBelow hw y3; have y4 := keptBelow hw y4; have y5 := keptBelow hw y5; go_simp; with_reducible rfl
    try simp only [Act.put, List.setIfInBounds_toArray, List.set_cons_zero, List.set_cons_succ]
    refine wpT_tk 7 68 (v := ?_) (Below.refl _ _) rfl rfl (by rfl) (hy := fun w hw => ?_) (h := ?_)
    rotate_left
    · have y0 := keptBelow hw y0; have y1 := keptBelow hw y1; have y2 := keptBelow hw y2; have y3 := keptBelow hw y3; have y4 := keptBelow hw y4; have y5 := keptBelow hw y5; go_simp; with_reducible rfl
    try simp only [Act.put, List.setIfInBounds_toArray, List.set_cons_zero, List.set_cons_succ]
    refine wpT_tk 8 69 (v := ?_) (Below.refl _ _) rfl rfl (by rfl) (hy := fun w hw => ?_) (h := ?_)
    rotate_left
    · have x0 := keptBelow hw x0; have x1 := keptBelow hw x1; have x2 := keptBelow hw x2; have x3 := keptBelow hw x3; have x4 := keptBelow hw x4; have x5 := keptBelow hw x5; go_simp; with_reducible rfl
    try simp only [Act.put, List.setIfInBounds_toArray, List.set_cons_zero, List.set_cons_succ]
    refine wpT_oneW 6 rfl (by rfl) (by kernel_rfl) ?_
    go_simp
    refine ⟨trivial, ?_⟩
    have hc := overU_w u t _ _ _ HU.out HV.out
    refine (callsIn_wide.2 hc).mono ?_
    clear hc
    rintro e wa ⟨rfl, hB⟩
    have hS := hB
    clear hB
    refine ⟨hS, ?_⟩
    refine wpT_oneW 9 rfl (by rfl) (by kernel_rfl) ?_
    go_simp
    refine ⟨trivial, ?_⟩
    have hc := overU_w t u _ _ _ (HV.out.via hS) (HU.out.via hS)
    rw [HOV.out] at hc
    refine (callsIn_wide.2 hc).mono ?_
    clear hc
    rintro e wb ⟨rfl, hB⟩
    replace hS := belowStep hS hB
    clear hB
    refine ⟨hS, ?_⟩
    obtain ⟨ov, hov⟩ : ∃ ov, ov = overU u t := ⟨_, rfl⟩
    have hov0 : ov = false := by rw [hov]; exact HF.out.over
    have HOO := Lib.hid hov
    rw [← hov]
    clear hov
    subst hov0
    refine wpT_tk 10 71 (v := ?_) hS rfl rfl (by rfl) (hy := fun w hw => ?_) (h := ?_)
    rotate_left
    · go_simp; with_reducible rfl
    try simp only [Act.put, List.setIfInBounds_toArray, List.set_cons_zero, List.set_cons_succ]
    refine wpT_tk 11 72 (v := ?_) hS rfl rfl (by rfl) (hy := fun w hw => ?_) (h := ?_)
    rotate_left
    · go_simp; with_reducible rfl
    try simp only [Act.put, List.setIfInBounds_toArray, List.set_cons_zero, List.set_cons_succ]
    refine wpT_tk 12 73 (v := ?_) hS rfl rfl (by rfl) (hy := fun w hw => ?_) (h := ?_)
    rotate_left
    · go_simp; with_reducible rfl
    try simp only [Act.put, List.setIfInBounds_toArray, List.set_cons_zero, List.set_cons_succ]
    refine wpT_tk 13 74 (v := ?_) hS rfl rfl (by rfl) (hy := fun w hw => ?_) (h := ?_)
    rotate_left
    · go_simp; with_reducible rfl
    try simp only [Act.put, List.setIfInBounds_toArray, List.set_cons_zero, List.set_cons_succ]
    refine wpT_tk 14 75 (v := ?_) hS rfl rfl (by rfl) (hy := fun w hw => ?_) (h := ?_)
    rotate_left
    · go_simp; with_reducible rfl
    try simp only [Act.put, List.setIfInBounds_toArray, List.set_cons_zero, List.set_cons_succ]
    refine wpT_tk 15 76 (v := ?_) hS rfl rfl (by rfl) (hy := fun w hw => ?_) (h := ?_)
    rotate_left
    · have x0 := keptBelow hw x0; have x1 := keptBelow hw x1; have x2 := keptBelow hw x2; have x3 := keptBelow hw x3; have x4 := keptBelow hw x4; have x5 := keptBelow hw x5; go_simp; with_reducible rfl
    try simp only [Act.put, List.setIfInBounds_toArray, List.set_cons_zero, List.set_cons_succ]
    refine wpT_tk 16 77 (v := ?_) hS rfl rfl (by rfl) (hy := fun w hw => ?_) (h := ?_)
    rotate_left
    · have y0 := keptBelow hw y0; have y1 := keptBelow hw y1; have y2 := keptBelow hw y2; have y3 := keptBelow hw y3; have y4 := keptBelow hw y4; have y5 := keptBelow hw y5; go_simp; with_reducible rfl
    try simp only [Act.put, List.setIfInBounds_toArray, List.set_cons_zero, List.set_cons_succ]
    refine wpT_oneW 17 rfl (by rfl) (by kernel_rfl) ?_
    go_simp
    refine ⟨trivial, ?_⟩
    have hc := overU_w u t _ _ _ (HU.out.via hS) (HV.out.via hS)
    rw [← HOO.out] at hc
    refine (callsIn_wide.2 hc).mono ?_
    clear hc
    rintro e wc ⟨rfl, hB⟩
    replace hS := belowStep hS hB
    clear hB
    refine ⟨hS, ?_⟩
    refine wpT_tk 18 79 (v := ?_) hS rfl rfl (by rfl) (hy := fun w hw => ?_) (h := ?_)
    rotate_left
    · go_simp; with_reducible rfl
    try simp only [Act.put, List.setIfInBounds_toArray, List.set_cons_zero, List.set_cons_succ]
    refine wpT_oneW 19 rfl (by rfl) (by kernel_rfl) ?_
    go_simp
    try refine ⟨(fun h => by cases h), ?_⟩
    refine wpT_done (by kernel_rfl) ?_ _
    clear x0 y0 x1 y1 x2 y2 x3 y3 x4 y4 x5 y5
    have hB := hS
    clear hS
    replace HU := Lib.hid (HU.out.via hB)
    replace HV := Lib.hid (HV.out.via hB)
    replace HT := Lib.hid (HT.out.via hB)
    replace HX1 := Lib.hid (heap_below hB HX1.out)
    replace HX2 := Lib.hid (heap_below hB HX2.out)
    replace HX3 := Lib.hid (heap_below hB HX3.out)
    replace HX4 := Lib.hid (heap_below hB HX4.out)
    replace HX5 := Lib.hid (heap_below hB HX5.out)
    replace HB := Lib.hid (belowStep HB.out hB)
    clear hB
    have z0 := cell_heap HX3.out (i := 0) rfl
    have z1 := cell_heap HX3.out (i := 1) rfl
    have z2 := cell_heap HX3.out (i := 2) rfl
    have z3 := cell_heap HX3.out (i := 3) rfl
    have z4 := cell_heap HX3.out (i := 4) rfl
    have z5 := cell_heap HX3.out (i := 5) rfl
    have z6 := cell_heap HX3.out (i := 6) rfl
    have z7 := cell_heap HX3.out (i := 7) rfl
    have y0 := cell_heap HX4.out (i := 0) rfl
    have y1 := cell_heap HX4.out (i := 1) rfl
    have y2 := cell_heap HX4.out (i := 2) rfl
    have y3 := cell_heap HX4.out (i := 3) rfl
    have y4 := cell_heap HX4.out (i := 4) rfl
    have y5 := cell_heap HX4.out (i := 5) rfl
    have y6 := cell_heap HX4.out (i := 6) rfl
    have y7 := cell_heap HX4.out (i := 7) rfl
    clear y0 y1 y2 y3 y4 y5 y6 y7
    go_wp2_with fail
    clear z0 z1 z2 z3 z4 z5 z6 z7
    have hB := alloc_below wc (.cells #[.int .i64 P1, .int .i64 P2, .int .i64 Q1, .int .i64 Q2] 38)
    have HX6 := Lib.hid (heap_alloc_new wc (.cells #[.int .i64 P1, .int .i64 P2, .int .i64 Q1, .int .i64 Q2] 38))
    replace HU := Lib.hid (HU.out.via hB)
    replace HV := Lib.hid (HV.out.via hB)
    replace HT := Lib.hid (HT.out.via hB)
    replace HX1 := Lib.hid (heap_below hB HX1.out)
    replace HX2 := Lib.hid (heap_below hB HX2.out)
    replace HX3 := Lib.hid (heap_below hB HX3.out)
    replace HX4 := Lib.hid (heap_below hB HX4.out)
    replace HX5 := Lib.hid (heap_below hB HX5.out)
    replace HB := Lib.hid (belowStep HB.out hB)
    clear hB
    obtain ⟨b6, hb6⟩ : ∃ b, b = wc.heap.size := ⟨_, rfl⟩
    obtain ⟨v2, hv2⟩ : ∃ v : World, v = (wc.alloc (.cells #[.int .i64 P1, .int .i64 P2, .int .i64 Q1, .int .i64 Q2] 38)) := ⟨_, rfl⟩
    rw [← hv2] at HU
    rw [← hv2] at HV
    rw [← hv2] at HT
    rw [← hv2] at HX1
    rw [← hv2] at HX2
    rw [← hv2] at HX3
    rw [← hv2] at HX4
    rw [← hv2] at HX5
    rw [← hv2] at HX6
    rw [← hv2] at HB ⊢
    rw [← hb6] at HX6 ⊢
    clear hv2 hb6
    go_loopw [99] (fun i wr => ∃ k : Nat, k ≤ 2 ∧ i = .int .i64 k ∧ Below v2.heap.size v2 wr) (fun i _ => 2 - (intOf i).toNat)
    case atStart => exact ⟨0, by omega, rfl, Below.refl _ _⟩
    case round =>
      obtain ⟨k, hk, rfl, hB⟩ := hrel
      have hBB := Lib.hid hB
      replace HU := Lib.hid (HU.out.via hB)
      replace HV := Lib.hid (HV.out.via hB)
      replace HT := Lib.hid (HT.out.via hB)
      replace HX1 := Lib.hid (heap_below hB HX1.out)
      replace HX2 := Lib.hid (heap_below hB HX2.out)
      replace HX3 := Lib.hid (heap_below hB HX3.out)
      replace HX4 := Lib.hid (heap_below hB HX4.out)
      replace HX5 := Lib.hid (heap_below hB HX5.out)
      replace HX6 := Lib.hid (heap_below hB HX6.out)
      replace HB := Lib.hid (belowStep HB.out hB)
      clear hB
      by_cases hlt : k < 2
      · have h01 : k = 0 ∨ k = 1 := by omega
        rcases h01 with rfl | rfl
        · have q0 := cell_heap HX6.out (i := 0) rfl
          have q1 := cell_heap HX6.out (i := 1) rfl
          have q2 := cell_heap HX6.out (i := 2) rfl
          have q3 := cell_heap HX6.out (i := 3) rfl
          have x3 := cell_heap HX1.out (i := 3) rfl
          have y3 := cell_heap HX2.out (i := 3) rfl
          have hA := alloc_below wr (.cells #[.int .i64 P1, .int .i64 P2] 38)
          have HX7 := Lib.hid (heap_alloc_new wr (.cells #[.int .i64 P1, .int .i64 P2] 38))
          have HUa := Lib.hid (HU.out.via hA)
          have HVa := Lib.hid (HV.out.via hA)
          have HBa := Lib.hid (belowStep hBB.out hA)
          have y3 := keptBelow hA y3
          have x3 := keptBelow hA x3
          clear hA
          go_wp2_with fail
          have hc := inside_w u.shape HUa.out.ok.len (P1, P2) (on_i64 HF.out.oP) _ _ HUa.out.at_
          rw [HF.out.pa] at hc
          refine hc.mono ?_
          clear hc
          rintro e wi ⟨rfl, hB⟩
          have r0 := cell_heap (heap_below hB HX7.out) (i := 0) rfl
          have r1 := cell_heap (heap_below hB HX7.out) (i := 1) rfl
          replace y3 := keptBelow hB y3
          replace HVa := Lib.hid (HVa.out.via hB)
          replace HBa := Lib.hid (belowStep HBa.out hB)
          clear hB q0 q1 q2 q3 x3 HX7 HUa
          go_wp2_with fail
          have hc := inside_w t.shape HVa.out.ok.len (P1, P2) (on_i64 HF.out.oP) _ _ HVa.out.at_
          rw [HF.out.pb] at hc
          refine hc.mono ?_
          clear hc
          rintro e wj ⟨rfl, hB⟩
          replace HBa := Lib.hid (belowStep HBa.out hB)
          clear hB r0 r1 y3 HVa
          go_wp2_with fail
          go_roundw
          case rel => exact ⟨1, by omega, rfl, HBa.out⟩
          case measure => simp [intOf]
        · have q0 := cell_heap HX6.out (i := 0) rfl
          have q1 := cell_heap HX6.out (i := 1) rfl
          have q2 := cell_heap HX6.out (i := 2) rfl
          have q3 := cell_heap HX6.out (i := 3) rfl
          have x3 := cell_heap HX1.out (i := 3) rfl
          have y3 := cell_heap HX2.out (i := 3) rfl
          have hA := alloc_below wr (.cells #[.int .i64 Q1, .int .i64 Q2] 38)
          have HX7 := Lib.hid (heap_alloc_new wr (.cells #[.int .i64 Q1, .int .i64 Q2] 38))
          have HUa := Lib.hid (HU.out.via hA)
          have HVa := Lib.hid (HV.out.via hA)
          have HBa := Lib.hid (belowStep hBB.out hA)
          have y3 := keptBelow hA y3
          have x3 := keptBelow hA x3
          clear hA
          go_wp2_with fail
          have hc := inside_w u.shape HUa.out.ok.len (Q1, Q2) (on_i64 HF.out.oQ) _ _ HUa.out.at_
          rw [HF.out.qa] at hc
          refine hc.mono ?_
          clear hc
          rintro e wi ⟨rfl, hB⟩
          have r0 := cell_heap (heap_below hB HX7.out) (i := 0) rfl
          have r1 := cell_heap (heap_below hB HX7.out) (i := 1) rfl
          replace y3 := keptBelow hB y3
          replace HVa := Lib.hid (HVa.out.via hB)
          replace HBa := Lib.hid (belowStep HBa.out hB)
          clear hB q0 q1 q2 q3 x3 HX7 HUa
          go_wp2_with fail
          have hc := inside_w t.shape HVa.out.ok.len (Q1, Q2) (on_i64 HF.out.oQ) _ _ HVa.out.at_
          rw [HF.out.qb] at hc
          refine hc.mono ?_
          clear hc
          rintro e wj ⟨rfl, hB⟩
          replace HBa := Lib.hid (belowStep HBa.out hB)
          clear hB r0 r1 y3 HVa
          go_wp2_with fail
          go_roundw
          case rel => exact ⟨2, by omega, rfl, HBa.out⟩
          case measure => simp [intOf]
      · obtain rfl : k = 2 := by omega
        have x0 := cell_heap HX1.out (i := 0) rfl
        have x1 := cell_heap HX1.out (i := 1) rfl
        have x2 := cell_heap HX1.out (i := 2) rfl
        have x3 := cell_heap HX1.out (i := 3) rfl
        have x4 := cell_heap HX1.out (i := 4) rfl
        have x5 := cell_heap HX1.out (i := 5) rfl
        have y0 := cell_heap HX2.out (i := 0) rfl
        have y1 := cell_heap HX2.out (i := 1) rfl
        have y2 := cell_heap HX2.out (i := 2) rfl
        have y3 := cell_heap HX2.out (i := 3) rfl
        have y4 := cell_heap HX2.out (i := 4) rfl
        have y5 := cell_heap HX2.out (i := 5) rfl
        have z0 := cell_heap HX3.out (i := 0) rfl
        have z1 := cell_heap HX3.out (i := 1) rfl
        have z2 := cell_heap HX3.out (i := 2) rfl
        have z3 := cell_heap HX3.out (i := 3) rfl
        have z4 := cell_heap HX3.out (i := 4) rfl
        have z5 := cell_heap HX3.out (i := 5) rfl
        have z6 := cell_heap HX3.out (i := 6) rfl
        have z7 := cell_heap HX3.out (i := 7) rfl
        have q0 := cell_heap HX5.out (i := 0) rfl
        have q1 := cell_heap HX5.out (i := 1) rfl
        have q2 := cell_heap HX5.out (i := 2) rfl
        have q3 := cell_heap HX5.out (i := 3) rfl
        have q4 := cell_heap HX5.out (i := 4) rfl
        have q5 := cell_heap HX5.out (i := 5) rfl
        have q6 := cell_heap HX5.out (i := 6) rfl
        have q7 := cell_heap HX5.out (i := 7) rfl
        have hne := HF.out.ne
        have f0 := HF.out.com
        have f1 : u.back ≤ bckP u t ∧ t.back ≤ bckP u t := by unfold bckP; omega
        have f2 : frtP u t ≤ u.front ∧ frtP u t ≤ t.front := by unfold frtP; omega
        rw [HBK.out, HFR.out] at f0
        rw [HBK.out] at f1
        rw [HFR.out] at f2
        obtain ⟨f1, f3⟩ := f1
        obtain ⟨f2, f4⟩ := f2
        by_cases hp : P1 = Q1
        · subst hp
          have hq : P2 ≠ Q2 := fun e => hne (by rw [e])
          clear hne
          go_wp2_with fail
          go_ret
          exact ⟨rfl, HB.out⟩
        · clear hne
          go_wp2_with fail
          go_ret
          exact ⟨rfl, HB.out⟩
end Go.Proofs.YtcamncipkofgkaaDoor
