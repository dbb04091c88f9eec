/- The walk of UnitCuts. -/
import Derived.Test.YtcamncipkofgkaaDoorUM10
import Derived.Test.YtcamncipkofgkaaDoorUY1
import Derived.Test.YtcamncipkofgkaaDoorUX1
namespace Go.Proofs.YtcamncipkofgkaaDoor
open Go.RowKit Go.Shelf Pln Unt
set_option maxRecDepth 100000 in
set_option maxHeartbeats 4000000 in
theorem unitCuts_w (x y : List Pt) (hx : (x.length : Int) ≤ 9223372036854775807) (hy : (y.length : Int) ≤ 9223372036854775807) (how : Int) (hh : I64 how) (a0 a1 a2 a3 : Int)
    (ha : I64 a0 ∧ I64 a1 ∧ I64 a2 ∧ I64 a3) (ci ck : Int) (hci : I64 ci) (hck : I64 ck) (vx1 vx2 : Value) (w : World) (h1 : PtsAt w vx1 x) (h2 : PtsAt w vx2 y) (hT : TabU w) :
    Calls Tryd.prog 4 #[vx1, vx2, .int .i64 how, .agg #[.int .i64 a0, .int .i64 a1, .int .i64 a2, .int .i64 a3], .int .i64 ci, .int .i64 ck] w fun e w' => e = .returned (.bool true) ∧ Below w.heap.size w w' := by
  have HH := Lib.hid hh
  have HA := Lib.hid ha
  have HX := Lib.hid hx
  have HCI := Lib.hid hci
  have HCK := Lib.hid hck
  clear hci hck
  have HY := Lib.hid hy
  have hB := alloc_below w (.cells #[.int .i64 a0, .int .i64 a1, .int .i64 a2, .int .i64 a3] 23)
  have HP := Lib.hid (heap_alloc_new w (.cells #[.int .i64 a0, .int .i64 a1, .int .i64 a2, .int .i64 a3] 23))
  have H1 := Lib.hid (h1.via hB)
  have H2 := Lib.hid (h2.via hB)
  have HTW := Lib.hid hT
  have HT := Lib.hid (hT.via hB)
  have HB := Lib.hid hB
  clear hh ha hx hy h1 h2 hT hB
  go_enter Tryd.func4, Tryd.ntmps4
  go_wp2_with fail
  refine (sane8_w _ HT.out).mono ?_
  rintro e w1 ⟨rfl, hB⟩
  have HP1 := heap_below hB HP.out
  have p0 := cell_heap HP1 (i := 0) rfl
  have p1 := cell_heap HP1 (i := 1) rfl
  have p2 := cell_heap HP1 (i := 2) rfl
  have p3 := cell_heap HP1 (i := 3) rfl
  replace H1 := Lib.hid (H1.out.via hB)
  replace H2 := Lib.hid (H2.out.via hB)
  replace HT := Lib.hid (HT.out.via hB)
  replace HB := Lib.hid (belowStep HB.out hB)
  clear hB HP HP1
  go_wp2_with fail
  clear p0 p1 p2 p3
  refine (pair8_w x y HX.out HY.out how HH.out a0 a1 a2 a3 a0 a1 a2 a3 HA.out HA.out vx1 vx2 _ H1.out H2.out).mono ?_
  rintro e w2 ⟨u, t, r, s, rfl, vu, vt, hu, ht, hB⟩
  replace HT := Lib.hid (HT.out.via hB)
  replace HB := Lib.hid (belowStep HB.out hB)
  have HU := Lib.hid hu
  have VU := Lib.hid vu
  have HV := Lib.hid ht
  have VT := Lib.hid vt
  obtain ⟨ar, cr, rfl⟩ : ∃ a c, r = .slice a u.shape.length c := by obtain ⟨⟨a, c, h, _⟩, _⟩ := hu.at_; exact ⟨a, c, h⟩
  obtain ⟨at1, ct1, rfl⟩ : ∃ a c, s = .slice a t.shape.length c := by obtain ⟨⟨a, c, h, _⟩, _⟩ := ht.at_; exact ⟨a, c, h⟩
  clear hu ht vt vu hB H1 H2 HH HA HX HY
  unfold uv
  go_upto_region 5 with fail
  obtain ⟨v1, hv1⟩ : ∃ v : World, v = (w2.alloc (.cells #[.int .i64 u.id, .int .i64 u.kind, .int .i64 u.mat, .slice ar u.shape.length cr, .int .i64 u.back, .int .i64 u.front] 27)).alloc (.cells #[.int .i64 t.id, .int .i64 t.kind, .int .i64 t.mat, .slice at1 t.shape.length ct1, .int .i64 t.back, .int .i64 t.front] 27) := ⟨_, rfl⟩
  have hB1 : Below w2.heap.size w2 (w2.alloc (.cells #[.int .i64 u.id, .int .i64 u.kind, .int .i64 u.mat, .slice ar u.shape.length cr, .int .i64 u.back, .int .i64 u.front] 27)) := alloc_below _ _
  have hB2 : Below (w2.alloc (.cells #[.int .i64 u.id, .int .i64 u.kind, .int .i64 u.mat, .slice ar u.shape.length cr, .int .i64 u.back, .int .i64 u.front] 27)).heap.size (w2.alloc (.cells #[.int .i64 u.id, .int .i64 u.kind, .int .i64 u.mat, .slice ar u.shape.length cr, .int .i64 u.back, .int .i64 u.front] 27)) v1 := by rw [hv1]; exact alloc_below _ _
  have hs1 : (w2.alloc (.cells #[.int .i64 u.id, .int .i64 u.kind, .int .i64 u.mat, .slice ar u.shape.length cr, .int .i64 u.back, .int .i64 u.front] 27)).heap.size = w2.heap.size + 1 := by simp
  have HX1 : Hid (v1.heap[w2.heap.size]? = some (.cells #[.int .i64 u.id, .int .i64 u.kind, .int .i64 u.mat, .slice ar u.shape.length cr, .int .i64 u.back, .int .i64 u.front] 27 (0, 0))) := Lib.hid (heap_below hB2 (heap_alloc_new w2 (.cells #[.int .i64 u.id, .int .i64 u.kind, .int .i64 u.mat, .slice ar u.shape.length cr, .int .i64 u.back, .int .i64 u.front] 27)))
  have HX2 : Hid (v1.heap[w2.heap.size + 1]? = some (.cells #[.int .i64 t.id, .int .i64 t.kind, .int .i64 t.mat, .slice at1 t.shape.length ct1, .int .i64 t.back, .int .i64 t.front] 27 (0, 0))) := Lib.hid (by rw [← hs1, hv1]; exact heap_alloc_new _ _)
  have HWB := Lib.hid HB.out.size
  have HZ : Hid (w2.heap.size + 2 ≤ v1.heap.size) := Lib.hid (by rw [hv1]; simp)
  have hB := belowStep hB1 hB2
  rw [← hv1]
  clear hB1 hB2 hs1 hv1
  replace HU := Lib.hid (HU.out.via hB)
  replace HV := Lib.hid (HV.out.via hB)
  replace HT := Lib.hid (HT.out.via hB)
  replace HB := Lib.hid (belowStep HB.out hB)
  clear hB
  obtain ⟨n, hn⟩ : ∃ n, n = u.shape.length := ⟨_, rfl⟩
  have HN := Lib.hid hn
  have hn1 : 3 ≤ n := by rw [hn]; exact VU.out.v.lo
  have hn2 : (n : Int) ≤ 100 := by have := VU.out.v.hi; omega
  have hn3 : (0 : Int) < n := by omega
  clear hn
  have hpi := pkN_in (c := ci) (n := (n : Int)) hn3
  have hpk := pkN_in (c := ck) (n := (n : Int)) hn3
  obtain ⟨i, hi⟩ : ∃ p : Nat, (p : Int) = pkN ci (n : Int) := ⟨(pkN ci (n : Int)).toNat, by omega⟩
  obtain ⟨k, hk⟩ : ∃ p : Nat, (p : Int) = pkN ck (n : Int) := ⟨(pkN ck (n : Int)).toNat, by omega⟩
  have hil : i < n := by omega
  have hkl : k < n := by omega
  have HPI : Hid (∀ w : World, Calls Tryd.prog 29 #[.int .i64 ci, .int .i64 (n : Int)] w fun e w' => e = .returned (.int .i64 (i : Int)) ∧ w = w') := Lib.hid (fun w => by rw [hi]; exact pickL8_w ci _ HCI.out hn3 (by omega) w)
  have HPK : Hid (∀ w : World, Calls Tryd.prog 29 #[.int .i64 ck, .int .i64 (n : Int)] w fun e w' => e = .returned (.int .i64 (k : Int)) ∧ w = w') := Lib.hid (fun w => by rw [hk]; exact pickL8_w ck _ HCK.out hn3 (by omega) w)
  have HIL : Hid (i < u.shape.length) := Lib.hid (by rw [← HN.out]; exact hil)
  have HKL : Hid (k < u.shape.length) := Lib.hid (by rw [← HN.out]; exact hkl)
  clear hpi hpk hi hk HCI HCK
  have HX1 : Hid (v1.heap[w2.heap.size]? = some (.cells #[.int .i64 u.id, .int .i64 u.kind, .int .i64 u.mat, .slice ar n cr, .int .i64 u.back, .int .i64 u.front] 27 (0, 0))) := Lib.hid (by rw [HN.out]; exact HX1.out)
  have HU : Hid (UAt v1 (.slice ar n cr) u) := Lib.hid (by rw [HN.out]; exact HU.out)
  have x0 := cell_heap HX1.out (i := 0) rfl
  have x1 := cell_heap HX1.out (i := 1) rfl
  have x2 := cell_heap HX1.out (i := 2) rfl
  have x3 := cell_heap HX1.out (i := 3) rfl
  have x4 := cell_heap HX1.out (i := 4) rfl
  have x5 := cell_heap HX1.out (i := 5) rfl
  go_upto_region 7 with fail
  clear x0 x1 x2 x3 x4 x5
  have hB := alloc_below v1 (.cells #[.int .i64 u.id, .int .i64 u.kind, .int .i64 u.mat, .slice ar n cr, .int .i64 u.back, .int .i64 u.front] 27)
  have HX3 := Lib.hid (heap_alloc_new v1 (.cells #[.int .i64 u.id, .int .i64 u.kind, .int .i64 u.mat, .slice ar n cr, .int .i64 u.back, .int .i64 u.front] 27))
  replace HU := Lib.hid (HU.out.via hB)
  replace HT := Lib.hid (HT.out.via hB)
  replace HX1 := Lib.hid (heap_below hB HX1.out)
  replace HB := Lib.hid (belowStep HB.out hB)
  clear hB
  have x0 := cell_heap HX1.out (i := 0) rfl
  have x1 := cell_heap HX1.out (i := 1) rfl
  have x2 := cell_heap HX1.out (i := 2) rfl
  have x3 := cell_heap HX1.out (i := 3) rfl
  have x4 := cell_heap HX1.out (i := 4) rfl
  have x5 := cell_heap HX1.out (i := 5) rfl
  go_upto_region 9 with fail
  clear x0 x1 x2 x3 x4 x5
  have hB := alloc_below (v1.alloc (.cells #[.int .i64 u.id, .int .i64 u.kind, .int .i64 u.mat, .slice ar n cr, .int .i64 u.back, .int .i64 u.front] 27)) (.cells #[.int .i64 u.id, .int .i64 u.kind, .int .i64 u.mat, .slice ar n cr, .int .i64 u.back, .int .i64 u.front] 27)
  have HX4 := Lib.hid (heap_alloc_new (v1.alloc (.cells #[.int .i64 u.id, .int .i64 u.kind, .int .i64 u.mat, .slice ar n cr, .int .i64 u.back, .int .i64 u.front] 27)) (.cells #[.int .i64 u.id, .int .i64 u.kind, .int .i64 u.mat, .slice ar n cr, .int .i64 u.back, .int .i64 u.front] 27))
  replace HU := Lib.hid (HU.out.via hB)
  replace HT := Lib.hid (HT.out.via hB)
  replace HX1 := Lib.hid (heap_below hB HX1.out)
  replace HX3 := Lib.hid (heap_below hB HX3.out)
  replace HB := Lib.hid (belowStep HB.out hB)
  clear hB
  obtain ⟨v2, hv2⟩ : ∃ v : World, v = ((v1.alloc (.cells #[.int .i64 u.id, .int .i64 u.kind, .int .i64 u.mat, .slice ar n cr, .int .i64 u.back, .int .i64 u.front] 27)).alloc (.cells #[.int .i64 u.id, .int .i64 u.kind, .int .i64 u.mat, .slice ar n cr, .int .i64 u.back, .int .i64 u.front] 27)) := ⟨_, rfl⟩
  rw [← hv2] at HU
  rw [← hv2] at HT
  rw [← hv2] at HX1
  rw [← hv2] at HX3
  rw [← hv2] at HX4
  rw [← hv2] at HB
  rw [← hv2]
  clear hv2
  obtain ⟨b3, hb3⟩ : ∃ b, b = v1.heap.size := ⟨_, rfl⟩
  have hb4 : (v1.alloc (.cells #[.int .i64 u.id, .int .i64 u.kind, .int .i64 u.mat, .slice ar n cr, .int .i64 u.back, .int .i64 u.front] 27)).heap.size = v1.heap.size + 1 := by simp
  rw [hb4, ← hb3] at HX4
  rw [← hb3] at HX3
  try rw [← hb3]
  have hz : w2.heap.size < b3 := by have := HZ.out; omega
  clear hb4 hb3 HZ
  have HLN : Hid (AdjP n i k ∨ ¬ AdjP n i k) := Lib.hid (Classical.em _)
  have HT0 := HTW
  have HW0 : Hid (w.heap.size ≤ b3) := Lib.hid (by have := HWB.out; omega)
  rcases HLN.out with hadj | hadj
  · have HCU : Hid (cutP u.shape i k = none) := Lib.hid (cut_adj VU.out.v HIL.out HKL.out (by rw [← HN.out]; exact hadj))
    refine (wpIn_wide (n := 5)).1 ?_
    refine wpIn_region_T (fun w' => w'.cell? ⟨w2.heap.size, 3, none⟩ = some (.slice ar n cr)) 17 (by kernel_rfl) ?_
    have hB : Below v2.heap.size v2 v2.drew := (Below.refl _ _).drew
    obtain ⟨wd, hwd⟩ : ∃ v : World, v = v2.drew := ⟨_, rfl⟩
    rw [← hwd] at hB ⊢
    clear hwd
    replace HU := Lib.hid (HU.out.via hB)
    replace HT := Lib.hid (HT.out.via hB)
    replace HX1 := Lib.hid (heap_below hB HX1.out)
    replace HX3 := Lib.hid (heap_below hB HX3.out)
    replace HX4 := Lib.hid (heap_below hB HX4.out)
    replace HB := Lib.hid (belowStep HB.out hB)
    clear hB
    have hS : wd.cell? ⟨w2.heap.size, 3, none⟩ = some (.slice ar n cr) := cell_heap HX1.out (i := 3) rfl
    refine wpT_tk 0 43 (v := ?_) hS rfl rfl (by rfl) (hy := fun w hw => ?_) (h := ?_)
    rotate_left
    · go_simp; with_reducible rfl
    try simp only [Act.put, List.setIfInBounds_toArray, List.set_cons_zero, List.set_cons_succ]
    refine wpT_tk 1 44 (v := ?_) hS rfl rfl (by rfl) (hy := fun w hw => ?_) (h := ?_)
    rotate_left
    · have x3 : w.cell? ⟨w2.heap.size, 3, none⟩ = some (.slice ar n cr) := hw; go_simp; with_reducible rfl
    try simp only [Act.put, List.setIfInBounds_toArray, List.set_cons_zero, List.set_cons_succ]
    refine wpT_tk 2 45 (v := ?_) hS rfl rfl (by rfl) (hy := fun w hw => ?_) (h := ?_)
    rotate_left
    · go_simp; with_reducible rfl
    try simp only [Act.put, List.setIfInBounds_toArray, List.set_cons_zero, List.set_cons_succ]
    refine wpT_tk 3 46 (v := ?_) hS rfl rfl (by rfl) (hy := fun w hw => ?_) (h := ?_)
    rotate_left
    · go_simp; with_reducible rfl
    try simp only [Act.put, List.setIfInBounds_toArray, List.set_cons_zero, List.set_cons_succ]
    refine wpT_call 4 47 (v := .int .i64 (i : Int)) hS rfl rfl (by rfl) (f := 29) (args := #[.int .i64 ci, .int .i64 (n : Int)]) (hrun := fun w hw => ?_) (hdp := by decide) (hc := fun w hw => (callsIn_wide.2 (HPI.out w)).mono (fun e w' h => ⟨h.1, h.2.symm⟩)) (h := ?_)
    · go_simp
    try simp only [Act.put, List.setIfInBounds_toArray, List.set_cons_zero, List.set_cons_succ]
    refine wpT_tk 5 48 (v := ?_) hS rfl rfl (by rfl) (hy := fun w hw => ?_) (h := ?_)
    rotate_left
    · go_simp; with_reducible rfl
    try simp only [Act.put, List.setIfInBounds_toArray, List.set_cons_zero, List.set_cons_succ]
    refine wpT_tk 6 49 (v := ?_) hS rfl rfl (by rfl) (hy := fun w hw => ?_) (h := ?_)
    rotate_left
    · go_simp; with_reducible rfl
    try simp only [Act.put, List.setIfInBounds_toArray, List.set_cons_zero, List.set_cons_succ]
    refine wpT_call 7 50 (v := .int .i64 (k : Int)) hS rfl rfl (by rfl) (f := 29) (args := #[.int .i64 ck, .int .i64 (n : Int)]) (hrun := fun w hw => ?_) (hdp := by decide) (hc := fun w hw => (callsIn_wide.2 (HPK.out w)).mono (fun e w' h => ⟨h.1, h.2.symm⟩)) (h := ?_)
    · go_simp
    try simp only [Act.put, List.setIfInBounds_toArray, List.set_cons_zero, List.set_cons_succ]
    have hat := HU.out.at_
    refine wpT_oneW 8 rfl (by rfl) (by kernel_rfl) ?_
    go_simp
    refine ⟨trivial, ?_⟩
    refine (callsIn_wide.2 (cutS_none VU.out.v HCU.out _ _ hat HIL.out HKL.out)).mono ?_
    clear hat
    rintro e w5 ⟨rfl, hB⟩
    replace hS := keptBelow hB hS
    replace HU := Lib.hid (HU.out.via hB)
    replace HT := Lib.hid (HT.out.via hB)
    replace HX1 := Lib.hid (heap_below hB HX1.out)
    replace HX3 := Lib.hid (heap_below hB HX3.out)
    replace HX4 := Lib.hid (heap_below hB HX4.out)
    replace HB := Lib.hid (belowStep HB.out hB)
    clear hB
    refine ⟨hS, ?_⟩
    refine wpT_tk 9 42 (v := ?_) hS rfl rfl (by rfl) (hy := fun w hw => ?_) (h := ?_)
    rotate_left
    · go_simp; with_reducible rfl
    try simp only [Act.put, List.setIfInBounds_toArray, List.set_cons_zero, List.set_cons_succ]
    refine wpT_tk 10 52 (v := ?_) hS rfl rfl (by rfl) (hy := fun w hw => ?_) (h := ?_)
    rotate_left
    · go_simp; with_reducible rfl
    try simp only [Act.put, List.setIfInBounds_toArray, List.set_cons_zero, List.set_cons_succ]
    refine wpT_tk 11 53 (v := ?_) hS rfl rfl (by rfl) (hy := fun w hw => ?_) (h := ?_)
    rotate_left
    · go_simp; with_reducible rfl
    try simp only [Act.put, List.setIfInBounds_toArray, List.set_cons_zero, List.set_cons_succ]
    refine wpT_tk 12 54 (v := ?_) hS rfl rfl (by rfl) (hy := fun w hw => ?_) (h := ?_)
    rotate_left
    · go_simp; with_reducible rfl
    try simp only [Act.put, List.setIfInBounds_toArray, List.set_cons_zero, List.set_cons_succ]
    have z3 := cell_heap HX3.out (i := 3) rfl
    have f3 := frozen_of_row _ _ 3 _ _ HX3.out
    refine wpT_tk 13 55 (v := ?_) hS rfl rfl (by rfl) (hy := fun w hw => ?_) (h := ?_)
    rotate_left
    · go_simp; with_reducible rfl
    try simp only [Act.put, List.setIfInBounds_toArray, List.set_cons_zero, List.set_cons_succ]
    refine wpT_oneW 14 rfl (by rfl) (by kernel_rfl) ?_
    go_simp
    obtain ⟨w6, hw6⟩ : ∃ v : World, v = w5.setCell ⟨b3, 3, none⟩ (.slice none 0 0) := ⟨_, rfl⟩
    rw [← hw6]
    clear z3 f3
    have k1 : w6.heap[w2.heap.size]? = w5.heap[w2.heap.size]? := by rw [hw6]; exact heap_setCell_other _ ⟨b3, 3, none⟩ _ _ (by simp; omega)
    have k2 : w6.heap[b3 + 1]? = w5.heap[b3 + 1]? := by rw [hw6]; exact heap_setCell_other _ ⟨b3, 3, none⟩ _ _ (by simp)
    have k3 : w6.heap[b3]? = some (.cells #[.int .i64 u.id, .int .i64 u.kind, .int .i64 u.mat, .slice none 0 0, .int .i64 u.back, .int .i64 u.front] 27 (0, 0)) := by rw [hw6]; exact heap_setCell_same _ _ 3 _ _ (.slice none 0 0) HX3.out
    have jHU := HU.out.set (i := 3) (y := .slice none 0 0) VU.out.v.lo HX3.out
    rw [← hw6] at jHU
    replace HU := Lib.hid jHU
    clear jHU
    replace HB := Lib.hid (show Below w.heap.size w w6 from by rw [hw6]; exact HB.out.setCell (p := ⟨b3, 3, none⟩) (by have := HW0.out; simp; omega) _)
    replace HT := Lib.hid (HT0.out.via HB.out)
    replace HX1 := Lib.hid (k1.trans HX1.out)
    replace HX4 := Lib.hid (k2.trans HX4.out)
    replace HX3 := Lib.hid k3
    clear k1 k2 k3 hw6
    replace hS : w6.cell? ⟨w2.heap.size, 3, none⟩ = some (.slice ar n cr) := cell_heap HX1.out (i := 3) rfl
    first | refine ⟨hS, ?_⟩ | refine ⟨trivial, ?_⟩ | skip
    have z3 := cell_heap HX4.out (i := 3) rfl
    have f3 := frozen_of_row _ _ 3 _ _ HX4.out
    refine wpT_tk 15 56 (v := ?_) hS rfl rfl (by rfl) (hy := fun w hw => ?_) (h := ?_)
    rotate_left
    · go_simp; with_reducible rfl
    try simp only [Act.put, List.setIfInBounds_toArray, List.set_cons_zero, List.set_cons_succ]
    refine wpT_oneW 16 rfl (by rfl) (by kernel_rfl) ?_
    go_simp
    obtain ⟨w7, hw7⟩ : ∃ v : World, v = w6.setCell ⟨b3 + 1, 3, none⟩ (.slice none 0 0) := ⟨_, rfl⟩
    rw [← hw7]
    clear z3 f3
    have k1 : w7.heap[w2.heap.size]? = w6.heap[w2.heap.size]? := by rw [hw7]; exact heap_setCell_other _ ⟨b3 + 1, 3, none⟩ _ _ (by simp; omega)
    have k2 : w7.heap[b3]? = w6.heap[b3]? := by rw [hw7]; exact heap_setCell_other _ ⟨b3 + 1, 3, none⟩ _ _ (by simp)
    have k3 : w7.heap[b3 + 1]? = some (.cells #[.int .i64 u.id, .int .i64 u.kind, .int .i64 u.mat, .slice none 0 0, .int .i64 u.back, .int .i64 u.front] 27 (0, 0)) := by rw [hw7]; exact heap_setCell_same _ _ 3 _ _ (.slice none 0 0) HX4.out
    have jHU := HU.out.set (i := 3) (y := .slice none 0 0) VU.out.v.lo HX4.out
    rw [← hw7] at jHU
    replace HU := Lib.hid jHU
    clear jHU
    replace HB := Lib.hid (show Below w.heap.size w w7 from by rw [hw7]; exact HB.out.setCell (p := ⟨b3 + 1, 3, none⟩) (by have := HW0.out; simp; omega) _)
    replace HT := Lib.hid (HT0.out.via HB.out)
    replace HX1 := Lib.hid (k1.trans HX1.out)
    replace HX3 := Lib.hid (k2.trans HX3.out)
    replace HX4 := Lib.hid k3
    clear k1 k2 k3 hw7
    replace hS : w7.cell? ⟨w2.heap.size, 3, none⟩ = some (.slice ar n cr) := cell_heap HX1.out (i := 3) rfl
    first | refine ⟨hS, ?_⟩ | refine ⟨trivial, ?_⟩ | skip
    refine wpT_oneW 17 rfl (by rfl) (by kernel_rfl) ?_
    go_simp
    try refine ⟨(fun h => by cases h), ?_⟩
    refine wpT_done (by kernel_rfl) ?_ _
    clear hS
    go_wp2_with fail
    refine (HPI.out _).mono ?_
    rintro e wx ⟨rfl, rfl⟩
    go_wp2_with fail
    refine (HPK.out _).mono ?_
    rintro e wx ⟨rfl, rfl⟩
    have hd0 := adj_cases hn1 hil hkl hadj
    obtain ⟨d, hd⟩ : ∃ d, d = (i : Int) - k := ⟨_, rfl⟩
    rw [← hd] at hd0
    have hwr : IntKind.i64.wrap ((i : Int) - k) = d := by rw [hd]; exact IntWalk.i64_in _ (by omega)
    have hd2 : (i : Int) - k = d := hd.symm
    clear hd
    clear HX1 HX3 HX4 HU HT
    by_cases c0 : d = 0
    · subst c0
      go_wp2_with fail
      go_ret
      exact ⟨rfl, HB.out⟩
    · by_cases c1 : d = 1
      · subst c1
        go_wp2_with fail
        go_ret
        exact ⟨rfl, HB.out⟩
      · by_cases c2 : d = -1
        · subst c2
          go_wp2_with fail
          go_ret
          exact ⟨rfl, HB.out⟩
        · have c5 : d = (n : Int) - 1 ∨ ¬ d = (n : Int) - 1 := by omega
          rcases c5 with c5 | c5
          · have c6 : decide (d = (n : Int) - 1) = true := decide_eq_true c5
            have c7 : (d == (n : Int) - 1) = true := by simp [c5]
            clear c5 hd0
            go_wp2_with fail
            go_ret
            exact ⟨rfl, HB.out⟩
          · have c6 : decide (d = 1 - (n : Int)) = true := decide_eq_true (by omega)
            have c7 : (d == 1 - (n : Int)) = true := by simp; omega
            clear hd0
            go_wp2_with fail
            go_ret
            exact ⟨rfl, HB.out⟩
  · obtain ⟨a, b, hcu, hcf⟩ := cut_all VU.out.v HIL.out HKL.out (by rw [← HN.out]; exact hadj)
    have HCU := Lib.hid hcu
    have HCF := Lib.hid (cut_u VU.out hcf)
    clear hcu hcf hadj
    refine (wpIn_wide (n := 5)).1 ?_
    refine wpIn_region_T (fun w' => w'.cell? ⟨w2.heap.size, 3, none⟩ = some (.slice ar n cr)) 17 (by kernel_rfl) ?_
    have hB : Below v2.heap.size v2 v2.drew := (Below.refl _ _).drew
    obtain ⟨wd, hwd⟩ : ∃ v : World, v = v2.drew := ⟨_, rfl⟩
    rw [← hwd] at hB ⊢
    clear hwd
    replace HU := Lib.hid (HU.out.via hB)
    replace HT := Lib.hid (HT.out.via hB)
    replace HX1 := Lib.hid (heap_below hB HX1.out)
    replace HX3 := Lib.hid (heap_below hB HX3.out)
    replace HX4 := Lib.hid (heap_below hB HX4.out)
    replace HB := Lib.hid (belowStep HB.out hB)
    clear hB
    have hS : wd.cell? ⟨w2.heap.size, 3, none⟩ = some (.slice ar n cr) := cell_heap HX1.out (i := 3) rfl
    refine wpT_tk 0 43 (v := ?_) hS rfl rfl (by rfl) (hy := fun w hw => ?_) (h := ?_)
    rotate_left
    · go_simp; with_reducible rfl
    try simp only [Act.put, List.setIfInBounds_toArray, List.set_cons_zero, List.set_cons_succ]
    refine wpT_tk 1 44 (v := ?_) hS rfl rfl (by rfl) (hy := fun w hw => ?_) (h := ?_)
    rotate_left
    · have x3 : w.cell? ⟨w2.heap.size, 3, none⟩ = some (.slice ar n cr) := hw; go_simp; with_reducible rfl
    try simp only [Act.put, List.setIfInBounds_toArray, List.set_cons_zero, List.set_cons_succ]
    refine wpT_tk 2 45 (v := ?_) hS rfl rfl (by rfl) (hy := fun w hw => ?_) (h := ?_)
    rotate_left
    · go_simp; with_reducible rfl
    try simp only [Act.put, List.setIfInBounds_toArray, List.set_cons_zero, List.set_cons_succ]
    refine wpT_tk 3 46 (v := ?_) hS rfl rfl (by rfl) (hy := fun w hw => ?_) (h := ?_)
    rotate_left
    · go_simp; with_reducible rfl
    try simp only [Act.put, List.setIfInBounds_toArray, List.set_cons_zero, List.set_cons_succ]
    refine wpT_call 4 47 (v := .int .i64 (i : Int)) hS rfl rfl (by rfl) (f := 29) (args := #[.int .i64 ci, .int .i64 (n : Int)]) (hrun := fun w hw => ?_) (hdp := by decide) (hc := fun w hw => (callsIn_wide.2 (HPI.out w)).mono (fun e w' h => ⟨h.1, h.2.symm⟩)) (h := ?_)
    · go_simp
    try simp only [Act.put, List.setIfInBounds_toArray, List.set_cons_zero, List.set_cons_succ]
    refine wpT_tk 5 48 (v := ?_) hS rfl rfl (by rfl) (hy := fun w hw => ?_) (h := ?_)
    rotate_left
    · go_simp; with_reducible rfl
    try simp only [Act.put, List.setIfInBounds_toArray, List.set_cons_zero, List.set_cons_succ]
    refine wpT_tk 6 49 (v := ?_) hS rfl rfl (by rfl) (hy := fun w hw => ?_) (h := ?_)
    rotate_left
    · go_simp; with_reducible rfl
    try simp only [Act.put, List.setIfInBounds_toArray, List.set_cons_zero, List.set_cons_succ]
    refine wpT_call 7 50 (v := .int .i64 (k : Int)) hS rfl rfl (by rfl) (f := 29) (args := #[.int .i64 ck, .int .i64 (n : Int)]) (hrun := fun w hw => ?_) (hdp := by decide) (hc := fun w hw => (callsIn_wide.2 (HPK.out w)).mono (fun e w' h => ⟨h.1, h.2.symm⟩)) (h := ?_)
    · go_simp
    try simp only [Act.put, List.setIfInBounds_toArray, List.set_cons_zero, List.set_cons_succ]
    have hat := HU.out.at_
    refine wpT_oneW 8 rfl (by rfl) (by kernel_rfl) ?_
    go_simp
    refine ⟨trivial, ?_⟩
    refine (callsIn_wide.2 (cutS_some VU.out HCU.out HCF.out.va HCF.out.vb _ _ hat HIL.out HKL.out)).mono ?_
    clear hat
    rintro e w5 ⟨ra, ka, rb, kb, rfl, hua, hub, hB⟩
    replace hS := keptBelow hB hS
    replace HU := Lib.hid (HU.out.via hB)
    replace HT := Lib.hid (HT.out.via hB)
    replace HX1 := Lib.hid (heap_below hB HX1.out)
    replace HX3 := Lib.hid (heap_below hB HX3.out)
    replace HX4 := Lib.hid (heap_below hB HX4.out)
    replace HB := Lib.hid (belowStep HB.out hB)
    clear hB
    have HA := Lib.hid hua
    have HD := Lib.hid hub
    clear hua hub
    refine ⟨hS, ?_⟩
    refine wpT_tk 9 42 (v := ?_) hS rfl rfl (by rfl) (hy := fun w hw => ?_) (h := ?_)
    rotate_left
    · go_simp; with_reducible rfl
    try simp only [Act.put, List.setIfInBounds_toArray, List.set_cons_zero, List.set_cons_succ]
    refine wpT_tk 10 52 (v := ?_) hS rfl rfl (by rfl) (hy := fun w hw => ?_) (h := ?_)
    rotate_left
    · go_simp; with_reducible rfl
    try simp only [Act.put, List.setIfInBounds_toArray, List.set_cons_zero, List.set_cons_succ]
    refine wpT_tk 11 53 (v := ?_) hS rfl rfl (by rfl) (hy := fun w hw => ?_) (h := ?_)
    rotate_left
    · go_simp; with_reducible rfl
    try simp only [Act.put, List.setIfInBounds_toArray, List.set_cons_zero, List.set_cons_succ]
    refine wpT_tk 12 54 (v := ?_) hS rfl rfl (by rfl) (hy := fun w hw => ?_) (h := ?_)
    rotate_left
    · go_simp; with_reducible rfl
    try simp only [Act.put, List.setIfInBounds_toArray, List.set_cons_zero, List.set_cons_succ]
    have z3 := cell_heap HX3.out (i := 3) rfl
    have f3 := frozen_of_row _ _ 3 _ _ HX3.out
    refine wpT_tk 13 55 (v := ?_) hS rfl rfl (by rfl) (hy := fun w hw => ?_) (h := ?_)
    rotate_left
    · go_simp; with_reducible rfl
    try simp only [Act.put, List.setIfInBounds_toArray, List.set_cons_zero, List.set_cons_succ]
    refine wpT_oneW 14 rfl (by rfl) (by kernel_rfl) ?_
    go_simp
    obtain ⟨w6, hw6⟩ : ∃ v : World, v = w5.setCell ⟨b3, 3, none⟩ (.slice ra a.length ka) := ⟨_, rfl⟩
    rw [← hw6]
    clear z3 f3
    have k1 : w6.heap[w2.heap.size]? = w5.heap[w2.heap.size]? := by rw [hw6]; exact heap_setCell_other _ ⟨b3, 3, none⟩ _ _ (by simp; omega)
    have k2 : w6.heap[b3 + 1]? = w5.heap[b3 + 1]? := by rw [hw6]; exact heap_setCell_other _ ⟨b3, 3, none⟩ _ _ (by simp)
    have k3 : w6.heap[b3]? = some (.cells #[.int .i64 u.id, .int .i64 u.kind, .int .i64 u.mat, .slice ra a.length ka, .int .i64 u.back, .int .i64 u.front] 27 (0, 0)) := by rw [hw6]; exact heap_setCell_same _ _ 3 _ _ (.slice ra a.length ka) HX3.out
    have jHU := HU.out.set (i := 3) (y := .slice ra a.length ka) VU.out.v.lo HX3.out
    rw [← hw6] at jHU
    replace HU := Lib.hid jHU
    clear jHU
    have jHA := HA.out.set (i := 3) (y := .slice ra a.length ka) HCF.out.va.v.lo HX3.out
    rw [← hw6] at jHA
    replace HA := Lib.hid jHA
    clear jHA
    have jHD := HD.out.set (i := 3) (y := .slice ra a.length ka) HCF.out.vb.v.lo HX3.out
    rw [← hw6] at jHD
    replace HD := Lib.hid jHD
    clear jHD
    replace HB := Lib.hid (show Below w.heap.size w w6 from by rw [hw6]; exact HB.out.setCell (p := ⟨b3, 3, none⟩) (by have := HW0.out; simp; omega) _)
    replace HT := Lib.hid (HT0.out.via HB.out)
    replace HX1 := Lib.hid (k1.trans HX1.out)
    replace HX4 := Lib.hid (k2.trans HX4.out)
    replace HX3 := Lib.hid k3
    clear k1 k2 k3 hw6
    replace hS : w6.cell? ⟨w2.heap.size, 3, none⟩ = some (.slice ar n cr) := cell_heap HX1.out (i := 3) rfl
    first | refine ⟨hS, ?_⟩ | refine ⟨trivial, ?_⟩ | skip
    have z3 := cell_heap HX4.out (i := 3) rfl
    have f3 := frozen_of_row _ _ 3 _ _ HX4.out
    refine wpT_tk 15 56 (v := ?_) hS rfl rfl (by rfl) (hy := fun w hw => ?_) (h := ?_)
    rotate_left
    · go_simp; with_reducible rfl
    try simp only [Act.put, List.setIfInBounds_toArray, List.set_cons_zero, List.set_cons_succ]
    refine wpT_oneW 16 rfl (by rfl) (by kernel_rfl) ?_
    go_simp
    obtain ⟨w7, hw7⟩ : ∃ v : World, v = w6.setCell ⟨b3 + 1, 3, none⟩ (.slice rb b.length kb) := ⟨_, rfl⟩
    rw [← hw7]
    clear z3 f3
    have k1 : w7.heap[w2.heap.size]? = w6.heap[w2.heap.size]? := by rw [hw7]; exact heap_setCell_other _ ⟨b3 + 1, 3, none⟩ _ _ (by simp; omega)
    have k2 : w7.heap[b3]? = w6.heap[b3]? := by rw [hw7]; exact heap_setCell_other _ ⟨b3 + 1, 3, none⟩ _ _ (by simp)
    have k3 : w7.heap[b3 + 1]? = some (.cells #[.int .i64 u.id, .int .i64 u.kind, .int .i64 u.mat, .slice rb b.length kb, .int .i64 u.back, .int .i64 u.front] 27 (0, 0)) := by rw [hw7]; exact heap_setCell_same _ _ 3 _ _ (.slice rb b.length kb) HX4.out
    have jHU := HU.out.set (i := 3) (y := .slice rb b.length kb) VU.out.v.lo HX4.out
    rw [← hw7] at jHU
    replace HU := Lib.hid jHU
    clear jHU
    have jHA := HA.out.set (i := 3) (y := .slice rb b.length kb) HCF.out.va.v.lo HX4.out
    rw [← hw7] at jHA
    replace HA := Lib.hid jHA
    clear jHA
    have jHD := HD.out.set (i := 3) (y := .slice rb b.length kb) HCF.out.vb.v.lo HX4.out
    rw [← hw7] at jHD
    replace HD := Lib.hid jHD
    clear jHD
    replace HB := Lib.hid (show Below w.heap.size w w7 from by rw [hw7]; exact HB.out.setCell (p := ⟨b3 + 1, 3, none⟩) (by have := HW0.out; simp; omega) _)
    replace HT := Lib.hid (HT0.out.via HB.out)
    replace HX1 := Lib.hid (k1.trans HX1.out)
    replace HX3 := Lib.hid (k2.trans HX3.out)
    replace HX4 := Lib.hid k3
    clear k1 k2 k3 hw7
    replace hS : w7.cell? ⟨w2.heap.size, 3, none⟩ = some (.slice ar n cr) := cell_heap HX1.out (i := 3) rfl
    first | refine ⟨hS, ?_⟩ | refine ⟨trivial, ?_⟩ | skip
    refine wpT_oneW 17 rfl (by rfl) (by kernel_rfl) ?_
    go_simp
    try refine ⟨(fun h => by cases h), ?_⟩
    refine wpT_done (by kernel_rfl) ?_ _
    clear hS
    obtain ⟨⟨P1, P2⟩, hP⟩ : ∃ p, p = vx u.shape k := ⟨_, rfl⟩
    obtain ⟨⟨Q1, Q2⟩, hQ⟩ : ∃ p, p = vx u.shape i := ⟨_, rfl⟩
    have HE1 : Hid (touV (shpU u a) (shpU u b) = .tuple #[.agg #[.int .i64 u.id, .int .i64 u.id, .int .i64 P1, .int .i64 P2, .int .i64 Q1, .int .i64 Q2, .int .i64 u.back, .int .i64 u.front], .bool true]) := Lib.hid (by unfold touV; rw [HCF.out.tou, ← hP, ← hQ]; show Value.tuple #[conV u.id u.id ((P1, P2), (Q1, Q2)) (bckP (shpU u a) (shpU u b)) (frtP (shpU u a) (shpU u b)), .bool true] = _; rw [HCF.out.bck, HCF.out.frt]; rfl)
    have HPP := Lib.hid hP
    have HQQ := Lib.hid hQ
    clear hP hQ
    have x0 := cell_heap HX3.out (i := 0) rfl
    have x1 := cell_heap HX3.out (i := 1) rfl
    have x2 := cell_heap HX3.out (i := 2) rfl
    have x3 := cell_heap HX3.out (i := 3) rfl
    have x4 := cell_heap HX3.out (i := 4) rfl
    have x5 := cell_heap HX3.out (i := 5) rfl
    have y0 := cell_heap HX4.out (i := 0) rfl
    have y1 := cell_heap HX4.out (i := 1) rfl
    have y2 := cell_heap HX4.out (i := 2) rfl
    have y3 := cell_heap HX4.out (i := 3) rfl
    have y4 := cell_heap HX4.out (i := 4) rfl
    have y5 := cell_heap HX4.out (i := 5) rfl
    go_wp2_with fail
    clear x0 x1 x2 x3 x4 x5
    clear y0 y1 y2 y3 y4 y5
    have hc := touch_w (shpU u a) (shpU u b) _ _ _ HA.out HD.out
    rw [HE1.out] at hc
    refine hc.mono ?_
    clear hc
    rintro e w8 ⟨rfl, hB⟩
    replace HU := Lib.hid (HU.out.via hB)
    replace HA := Lib.hid (HA.out.via hB)
    replace HD := Lib.hid (HD.out.via hB)
    replace HT := Lib.hid (HT.out.via hB)
    replace HX1 := Lib.hid (heap_below hB HX1.out)
    replace HX3 := Lib.hid (heap_below hB HX3.out)
    replace HX4 := Lib.hid (heap_below hB HX4.out)
    replace HB := Lib.hid (belowStep HB.out hB)
    clear hB
    have hB := alloc_below w8 (.cells #[.int .i64 u.id, .int .i64 u.id, .int .i64 P1, .int .i64 P2, .int .i64 Q1, .int .i64 Q2, .int .i64 u.back, .int .i64 u.front] 42)
    have HX5 := Lib.hid (heap_alloc_new w8 (.cells #[.int .i64 u.id, .int .i64 u.id, .int .i64 P1, .int .i64 P2, .int .i64 Q1, .int .i64 Q2, .int .i64 u.back, .int .i64 u.front] 42))
    replace HU := Lib.hid (HU.out.via hB)
    replace HA := Lib.hid (HA.out.via hB)
    replace HD := Lib.hid (HD.out.via hB)
    replace HT := Lib.hid (HT.out.via hB)
    replace HX1 := Lib.hid (heap_below hB HX1.out)
    replace HX3 := Lib.hid (heap_below hB HX3.out)
    replace HX4 := Lib.hid (heap_below hB HX4.out)
    replace HB := Lib.hid (belowStep HB.out hB)
    clear hB
    go_upto_region 14 with fail
    refine (wpIn_wide (n := 5)).1 ?_
    refine wpIn_region_T (fun w' => Below (w8.alloc (.cells #[.int .i64 u.id, .int .i64 u.id, .int .i64 P1, .int .i64 P2, .int .i64 Q1, .int .i64 Q2, .int .i64 u.back, .int .i64 u.front] 42)).drew.heap.size (w8.alloc (.cells #[.int .i64 u.id, .int .i64 u.id, .int .i64 P1, .int .i64 P2, .int .i64 Q1, .int .i64 Q2, .int .i64 u.back, .int .i64 u.front] 42)).drew w') 16 (by kernel_rfl) ?_
    have hB : Below (w8.alloc (.cells #[.int .i64 u.id, .int .i64 u.id, .int .i64 P1, .int .i64 P2, .int .i64 Q1, .int .i64 Q2, .int .i64 u.back, .int .i64 u.front] 42)).heap.size (w8.alloc (.cells #[.int .i64 u.id, .int .i64 u.id, .int .i64 P1, .int .i64 P2, .int .i64 Q1, .int .i64 Q2, .int .i64 u.back, .int .i64 u.front] 42)) (w8.alloc (.cells #[.int .i64 u.id, .int .i64 u.id, .int .i64 P1, .int .i64 P2, .int .i64 Q1, .int .i64 Q2, .int .i64 u.back, .int .i64 u.front] 42)).drew := (Below.refl _ _).drew
    obtain ⟨wd16, hwd⟩ : ∃ v : World, v = (w8.alloc (.cells #[.int .i64 u.id, .int .i64 u.id, .int .i64 P1, .int .i64 P2, .int .i64 Q1, .int .i64 Q2, .int .i64 u.back, .int .i64 u.front] 42)).drew := ⟨_, rfl⟩
    rw [← hwd] at hB ⊢
    clear hwd
    replace HU := Lib.hid (HU.out.via hB)
    replace HA := Lib.hid (HA.out.via hB)
    replace HD := Lib.hid (HD.out.via hB)
    replace HT := Lib.hid (HT.out.via hB)
    replace HX1 := Lib.hid (heap_below hB HX1.out)
    replace HX3 := Lib.hid (heap_below hB HX3.out)
    replace HX4 := Lib.hid (heap_below hB HX4.out)
    replace HX5 := Lib.hid (heap_below hB HX5.out)
    replace HB := Lib.hid (belowStep HB.out hB)
    clear hB
    have hS := Below.refl wd16.heap.size wd16
    obtain ⟨⟨a9, c9, he9, _, _, hin⟩, _⟩ := HU.out.at_
    obtain ⟨h1, -, h3⟩ : ar = a9 ∧ n = u.shape.length ∧ cr = c9 := by simpa using he9
    subst h1
    subst h3
    obtain ⟨g9, o9, rfl, p0, p1⟩ := hin.get HKL.out
    obtain ⟨g8, o8, he8, q0, q1⟩ := hin.get HIL.out
    cases he8
    rw [← HPP.out] at p0 p1
    rw [← HQQ.out] at q0 q1
    dsimp only at p0 p1 q0 q1
    clear hin he9
    have hkl2 : (k : Int) < n := by omega
    have hil2 : (i : Int) < n := by omega
    have x3 := cell_heap HX1.out (i := 3) rfl
    refine wpT_tk 0 94 (v := ?_) hS rfl rfl (by rfl) (hy := fun w hw => ?_) (h := ?_)
    rotate_left
    · go_simp; with_reducible rfl
    try simp only [Act.put, List.setIfInBounds_toArray, List.set_cons_zero, List.set_cons_succ]
    refine wpT_tk 1 95 (v := ?_) hS rfl rfl (by rfl) (hy := fun w hw => ?_) (h := ?_)
    rotate_left
    · have x3 := keptBelow hw x3; go_simp; with_reducible rfl
    try simp only [Act.put, List.setIfInBounds_toArray, List.set_cons_zero, List.set_cons_succ]
    refine wpT_tk 2 96 (v := ?_) hS rfl rfl (by rfl) (hy := fun w hw => ?_) (h := ?_)
    rotate_left
    · go_simp; with_reducible rfl
    try simp only [Act.put, List.setIfInBounds_toArray, List.set_cons_zero, List.set_cons_succ]
    refine wpT_tk 3 97 (v := ?_) hS rfl rfl (by rfl) (hy := fun w hw => ?_) (h := ?_)
    rotate_left
    · go_simp; with_reducible rfl
    try simp only [Act.put, List.setIfInBounds_toArray, List.set_cons_zero, List.set_cons_succ]
    refine wpT_call 4 98 (v := .int .i64 (k : Int)) hS rfl rfl (by rfl) (f := 29) (args := #[.int .i64 ck, .int .i64 (n : Int)]) (hrun := fun w hw => ?_) (hdp := by decide) (hc := fun w hw => (callsIn_wide.2 (HPK.out w)).mono (fun e w' h => ⟨h.1, h.2.symm⟩)) (h := ?_)
    · go_simp
    try simp only [Act.put, List.setIfInBounds_toArray, List.set_cons_zero, List.set_cons_succ]
    refine wpT_tk 5 99 (v := ?_) hS rfl rfl (by rfl) (hy := fun w hw => ?_) (h := ?_)
    rotate_left
    · go_simp; with_reducible rfl
    try simp only [Act.put, List.setIfInBounds_toArray, List.set_cons_zero, List.set_cons_succ]
    refine wpT_tk 6 100 (v := ?_) hS rfl rfl (by rfl) (hy := fun w hw => ?_) (h := ?_)
    rotate_left
    · have p0 := keptBelow hw p0; have p1 := keptBelow hw p1; go_simp; with_reducible rfl
    try simp only [Act.put, List.setIfInBounds_toArray, List.set_cons_zero, List.set_cons_succ]
    refine wpT_tk 7 101 (v := ?_) hS rfl rfl (by rfl) (hy := fun w hw => ?_) (h := ?_)
    rotate_left
    · go_simp; with_reducible rfl
    try simp only [Act.put, List.setIfInBounds_toArray, List.set_cons_zero, List.set_cons_succ]
    refine wpT_tk 8 102 (v := ?_) hS rfl rfl (by rfl) (hy := fun w hw => ?_) (h := ?_)
    rotate_left
    · have x3 := keptBelow hw x3; go_simp; with_reducible rfl
    try simp only [Act.put, List.setIfInBounds_toArray, List.set_cons_zero, List.set_cons_succ]
    refine wpT_tk 9 103 (v := ?_) hS rfl rfl (by rfl) (hy := fun w hw => ?_) (h := ?_)
    rotate_left
    · go_simp; with_reducible rfl
    try simp only [Act.put, List.setIfInBounds_toArray, List.set_cons_zero, List.set_cons_succ]
    refine wpT_tk 10 104 (v := ?_) hS rfl rfl (by rfl) (hy := fun w hw => ?_) (h := ?_)
    rotate_left
    · go_simp; with_reducible rfl
    try simp only [Act.put, List.setIfInBounds_toArray, List.set_cons_zero, List.set_cons_succ]
    refine wpT_call 11 105 (v := .int .i64 (i : Int)) hS rfl rfl (by rfl) (f := 29) (args := #[.int .i64 ci, .int .i64 (n : Int)]) (hrun := fun w hw => ?_) (hdp := by decide) (hc := fun w hw => (callsIn_wide.2 (HPI.out w)).mono (fun e w' h => ⟨h.1, h.2.symm⟩)) (h := ?_)
    · go_simp
    try simp only [Act.put, List.setIfInBounds_toArray, List.set_cons_zero, List.set_cons_succ]
    refine wpT_tk 12 106 (v := ?_) hS rfl rfl (by rfl) (hy := fun w hw => ?_) (h := ?_)
    rotate_left
    · go_simp; with_reducible rfl
    try simp only [Act.put, List.setIfInBounds_toArray, List.set_cons_zero, List.set_cons_succ]
    refine wpT_tk 13 107 (v := ?_) hS rfl rfl (by rfl) (hy := fun w hw => ?_) (h := ?_)
    rotate_left
    · have q0 := keptBelow hw q0; have q1 := keptBelow hw q1; go_simp; with_reducible rfl
    try simp only [Act.put, List.setIfInBounds_toArray, List.set_cons_zero, List.set_cons_succ]
    refine wpT_tk 14 108 (v := ?_) hS rfl rfl (by rfl) (hy := fun w hw => ?_) (h := ?_)
    rotate_left
    · go_simp; with_reducible rfl
    try simp only [Act.put, List.setIfInBounds_toArray, List.set_cons_zero, List.set_cons_succ]
    clear p0 p1 q0 q1 x3 hS
    refine wpT_oneW 15 rfl (by rfl) (by kernel_rfl) ?_
    go_simp
    have hA := alloc_below wd16 (.cells #[.int .i64 0, .int .i64 0, .int .i64 0, .int .i64 0] 40)
    have hR := heap_alloc_new wd16 (.cells #[.int .i64 0, .int .i64 0, .int .i64 0, .int .i64 0] 40)
    obtain ⟨w9, hw9⟩ : ∃ v : World, v = wd16.alloc (.cells #[.int .i64 0, .int .i64 0, .int .i64 0, .int .i64 0] 40) := ⟨_, rfl⟩
    rw [← hw9] at hA hR ⊢
    clear hw9
    first | refine ⟨hA, ?_⟩ | refine ⟨trivial, ?_⟩ | skip
    have r0 := cell_heap hR (i := 0) rfl
    have r1 := cell_heap hR (i := 1) rfl
    have r2 := cell_heap hR (i := 2) rfl
    have r3 := cell_heap hR (i := 3) rfl
    have f0 := frozen_of_row _ _ 0 _ _ hR
    have f1 := frozen_of_row _ _ 1 _ _ hR
    have f2 := frozen_of_row _ _ 2 _ _ hR
    have f3 := frozen_of_row _ _ 3 _ _ hR
    refine wpT_oneW 16 rfl (by rfl) (by kernel_rfl) ?_
    go_simp
    try refine ⟨(fun h => by cases h), ?_⟩
    clear r0 r1 r2 r3 f0 f1 f2 f3
    have hB : Below wd16.heap.size wd16 ((((w9.setCell ⟨wd16.heap.size, 0, none⟩ (.int .i64 P1)).setCell ⟨wd16.heap.size, 1, none⟩ (.int .i64 P2)).setCell ⟨wd16.heap.size, 2, none⟩ (.int .i64 Q1)).setCell ⟨wd16.heap.size, 3, none⟩ (.int .i64 Q2)) := ((((hA.setCell (p := ⟨wd16.heap.size, 0, none⟩) (Nat.le_refl _) _).setCell (p := ⟨wd16.heap.size, 1, none⟩) (Nat.le_refl _) _).setCell (p := ⟨wd16.heap.size, 2, none⟩) (Nat.le_refl _) _).setCell (p := ⟨wd16.heap.size, 3, none⟩) (Nat.le_refl _) _)
    have hX6 := heap_setCell_same _ wd16.heap.size 3 _ _ (.int .i64 Q2) (heap_setCell_same _ wd16.heap.size 2 _ _ (.int .i64 Q1) (heap_setCell_same _ wd16.heap.size 1 _ _ (.int .i64 P2) (heap_setCell_same _ wd16.heap.size 0 _ _ (.int .i64 P1) hR)))
    obtain ⟨w10, hw10⟩ : ∃ v : World, v = ((((w9.setCell ⟨wd16.heap.size, 0, none⟩ (.int .i64 P1)).setCell ⟨wd16.heap.size, 1, none⟩ (.int .i64 P2)).setCell ⟨wd16.heap.size, 2, none⟩ (.int .i64 Q1)).setCell ⟨wd16.heap.size, 3, none⟩ (.int .i64 Q2)) := ⟨_, rfl⟩
    rw [← hw10] at hB hX6 ⊢
    clear hw10 hA hR
    have HX6 : Hid (w10.heap[wd16.heap.size]? = some (.cells #[.int .i64 P1, .int .i64 P2, .int .i64 Q1, .int .i64 Q2] 40 (0, 0))) := Lib.hid hX6
    clear hX6
    replace HU := Lib.hid (HU.out.via hB)
    replace HA := Lib.hid (HA.out.via hB)
    replace HD := Lib.hid (HD.out.via hB)
    replace HT := Lib.hid (HT.out.via hB)
    replace HX1 := Lib.hid (heap_below hB HX1.out)
    replace HX3 := Lib.hid (heap_below hB HX3.out)
    replace HX4 := Lib.hid (heap_below hB HX4.out)
    replace HX5 := Lib.hid (heap_below hB HX5.out)
    replace HB := Lib.hid (belowStep HB.out hB)
    clear hB
    refine wpT_done (by kernel_rfl) ?_ _
    go_upto_region 15 with fail
    refine (wpIn_wide (n := 5)).1 ?_
    refine wpIn_region_T (fun w' => Below w10.drew.heap.size w10.drew w') 28 (by kernel_rfl) ?_
    have hB : Below w10.heap.size w10 w10.drew := (Below.refl _ _).drew
    obtain ⟨wd28, hwd⟩ : ∃ v : World, v = w10.drew := ⟨_, rfl⟩
    rw [← hwd] at hB ⊢
    clear hwd
    replace HU := Lib.hid (HU.out.via hB)
    replace HA := Lib.hid (HA.out.via hB)
    replace HD := Lib.hid (HD.out.via hB)
    replace HT := Lib.hid (HT.out.via hB)
    replace HX1 := Lib.hid (heap_below hB HX1.out)
    replace HX3 := Lib.hid (heap_below hB HX3.out)
    replace HX4 := Lib.hid (heap_below hB HX4.out)
    replace HX5 := Lib.hid (heap_below hB HX5.out)
    replace HX6 := Lib.hid (heap_below hB HX6.out)
    replace HB := Lib.hid (belowStep HB.out hB)
    clear hB
    have HVO := Lib.hid HCF.out.vol
    have HWO := Lib.hid HCF.out.wt
    have HMO := Lib.hid HCF.out.mom
    have g1 := vol_in VU.out
    have g2 := wt_in VU.out
    have g3 := mom_in VU.out
    have HKVA := Lib.hid (fun (wq : World) (ha : UAt wq (.slice ra a.length ka) (shpU u a)) (ht : TabU wq) => volume_w (shpU u a) _ wq ha)
    have HKVB := Lib.hid (fun (wq : World) (ha : UAt wq (.slice rb b.length kb) (shpU u b)) (ht : TabU wq) => volume_w (shpU u b) _ wq ha)
    have HKVU := Lib.hid (fun (wq : World) (ha : UAt wq (.slice (some ⟨g9, o9, none⟩) n cr) u) (ht : TabU wq) => volume_w u _ wq ha)
    have HKWA := Lib.hid (fun (wq : World) (ha : UAt wq (.slice ra a.length ka) (shpU u a)) (ht : TabU wq) => weight_w (shpU u a) _ wq ha ht)
    have HKWB := Lib.hid (fun (wq : World) (ha : UAt wq (.slice rb b.length kb) (shpU u b)) (ht : TabU wq) => weight_w (shpU u b) _ wq ha ht)
    have HKWU := Lib.hid (fun (wq : World) (ha : UAt wq (.slice (some ⟨g9, o9, none⟩) n cr) u) (ht : TabU wq) => weight_w u _ wq ha ht)
    have HKMA := Lib.hid (fun (wq : World) (ha : UAt wq (.slice ra a.length ka) (shpU u a)) (ht : TabU wq) => moment_w (shpU u a) _ wq ha ht)
    have HKMB := Lib.hid (fun (wq : World) (ha : UAt wq (.slice rb b.length kb) (shpU u b)) (ht : TabU wq) => moment_w (shpU u b) _ wq ha ht)
    have HKMU := Lib.hid (fun (wq : World) (ha : UAt wq (.slice (some ⟨g9, o9, none⟩) n cr) u) (ht : TabU wq) => moment_w u _ wq ha ht)
    obtain ⟨va, hva⟩ : ∃ x, x = volP (shpU u a) := ⟨_, rfl⟩
    obtain ⟨vb, hvb⟩ : ∃ x, x = volP (shpU u b) := ⟨_, rfl⟩
    obtain ⟨vu, hvu⟩ : ∃ x, x = volP u := ⟨_, rfl⟩
    rw [← hva, ← hvb, ← hvu] at HVO
    rw [← hvu] at g1
    rw [← hva] at HKVA
    rw [← hvb] at HKVB
    rw [← hvu] at HKVU
    clear hva hvb hvu
    have ev : IntKind.i64.wrap (va + vb) = vu := by rw [HVO.out]; exact IntWalk.i64_in _ (by omega)
    obtain ⟨ta, hta⟩ : ∃ x, x = wtP (shpU u a) := ⟨_, rfl⟩
    obtain ⟨tb, htb⟩ : ∃ x, x = wtP (shpU u b) := ⟨_, rfl⟩
    obtain ⟨tu, htu⟩ : ∃ x, x = wtP u := ⟨_, rfl⟩
    rw [← hta, ← htb, ← htu] at HWO
    rw [← htu] at g2
    rw [← hta] at HKWA
    rw [← htb] at HKWB
    rw [← htu] at HKWU
    clear hta htb htu
    have et : IntKind.i64.wrap (ta + tb) = tu := by rw [HWO.out]; exact IntWalk.i64_in _ (by omega)
    obtain ⟨ma, hma⟩ : ∃ x, x = momP (shpU u a) := ⟨_, rfl⟩
    obtain ⟨mb, hmb⟩ : ∃ x, x = momP (shpU u b) := ⟨_, rfl⟩
    obtain ⟨mu, hmu⟩ : ∃ x, x = momP u := ⟨_, rfl⟩
    rw [← hma, ← hmb, ← hmu] at HMO
    rw [← hmu] at g3
    rw [← hma] at HKMA
    rw [← hmb] at HKMB
    rw [← hmu] at HKMU
    clear hma hmb hmu
    have em : IntKind.i64.wrap (ma + mb) = mu := by rw [HMO.out]; exact IntWalk.i64_in _ (by omega)
    clear g1 g2 g3
    have hS := Below.refl wd28.heap.size wd28
    have x0 := cell_heap HX3.out (i := 0) rfl
    have x1 := cell_heap HX3.out (i := 1) rfl
    have x2 := cell_heap HX3.out (i := 2) rfl
    have x3 := cell_heap HX3.out (i := 3) rfl
    have x4 := cell_heap HX3.out (i := 4) rfl
    have x5 := cell_heap HX3.out (i := 5) rfl
    have y0 := cell_heap HX4.out (i := 0) rfl
    have y1 := cell_heap HX4.out (i := 1) rfl
    have y2 := cell_heap HX4.out (i := 2) rfl
    have y3 := cell_heap HX4.out (i := 3) rfl
    have y4 := cell_heap HX4.out (i := 4) rfl
    have y5 := cell_heap HX4.out (i := 5) rfl
    have z0 := cell_heap HX1.out (i := 0) rfl
    have z1 := cell_heap HX1.out (i := 1) rfl
    have z2 := cell_heap HX1.out (i := 2) rfl
    have z3 := cell_heap HX1.out (i := 3) rfl
    have z4 := cell_heap HX1.out (i := 4) rfl
    have z5 := cell_heap HX1.out (i := 5) rfl
    refine wpT_tk 0 109 (v := ?_) hS rfl rfl (by rfl) (hy := fun w hw => ?_) (h := ?_)
    rotate_left
    · have x0 := keptBelow hw x0; have x1 := keptBelow hw x1; have x2 := keptBelow hw x2; have x3 := keptBelow hw x3; have x4 := keptBelow hw x4; have x5 := keptBelow hw x5; go_simp; with_reducible rfl
    try simp only [Act.put, List.setIfInBounds_toArray, List.set_cons_zero, List.set_cons_succ]
    refine wpT_tk 2 111 (v := ?_) hS rfl rfl (by rfl) (hy := fun w hw => ?_) (h := ?_)
    rotate_left
    · have y0 := keptBelow hw y0; have y1 := keptBelow hw y1; have y2 := keptBelow hw y2; have y3 := keptBelow hw y3; have y4 := keptBelow hw y4; have y5 := keptBelow hw y5; go_simp; with_reducible rfl
    try simp only [Act.put, List.setIfInBounds_toArray, List.set_cons_zero, List.set_cons_succ]
    refine wpT_tk 5 114 (v := ?_) hS rfl rfl (by rfl) (hy := fun w hw => ?_) (h := ?_)
    rotate_left
    · have z0 := keptBelow hw z0; have z1 := keptBelow hw z1; have z2 := keptBelow hw z2; have z3 := keptBelow hw z3; have z4 := keptBelow hw z4; have z5 := keptBelow hw z5; go_simp; with_reducible rfl
    try simp only [Act.put, List.setIfInBounds_toArray, List.set_cons_zero, List.set_cons_succ]
    refine wpT_oneW 1 rfl (by rfl) (by kernel_rfl) ?_
    go_simp
    refine ⟨trivial, ?_⟩
    have hc := HKVA.out _ (HA.out.via hS) (HT.out.via hS)
    refine (callsIn_wide.2 hc).mono ?_
    clear hc
    rintro e y1w ⟨rfl, hB⟩
    replace hS := belowStep hS hB
    clear hB
    refine ⟨hS, ?_⟩
    refine wpT_oneW 3 rfl (by rfl) (by kernel_rfl) ?_
    go_simp
    refine ⟨trivial, ?_⟩
    have hc := HKVB.out _ (HD.out.via hS) (HT.out.via hS)
    refine (callsIn_wide.2 hc).mono ?_
    clear hc
    rintro e y2w ⟨rfl, hB⟩
    replace hS := belowStep hS hB
    clear hB
    refine ⟨hS, ?_⟩
    refine wpT_tk 4 113 (v := ?_) hS rfl rfl (by rfl) (hy := fun w hw => ?_) (h := ?_)
    rotate_left
    · go_simp; with_reducible rfl
    try simp only [Act.put, List.setIfInBounds_toArray, List.set_cons_zero, List.set_cons_succ]
    refine wpT_oneW 6 rfl (by rfl) (by kernel_rfl) ?_
    go_simp
    refine ⟨trivial, ?_⟩
    have hc := HKVU.out _ (HU.out.via hS) (HT.out.via hS)
    refine (callsIn_wide.2 hc).mono ?_
    clear hc
    rintro e y3w ⟨rfl, hB⟩
    replace hS := belowStep hS hB
    clear hB
    refine ⟨hS, ?_⟩
    refine wpT_tk 7 116 (v := ?_) hS rfl rfl (by rfl) (hy := fun w hw => ?_) (h := ?_)
    rotate_left
    · go_simp; with_reducible rfl
    try simp only [Act.put, List.setIfInBounds_toArray, List.set_cons_zero, List.set_cons_succ]
    refine wpT_tk 8 117 (v := ?_) hS rfl rfl (by rfl) (hy := fun w hw => ?_) (h := ?_)
    rotate_left
    · go_simp; with_reducible rfl
    try simp only [Act.put, List.setIfInBounds_toArray, List.set_cons_zero, List.set_cons_succ]
    refine wpT_tk 9 118 (v := ?_) hS rfl rfl (by rfl) (hy := fun w hw => ?_) (h := ?_)
    rotate_left
    · have x0 := keptBelow hw x0; have x1 := keptBelow hw x1; have x2 := keptBelow hw x2; have x3 := keptBelow hw x3; have x4 := keptBelow hw x4; have x5 := keptBelow hw x5; go_simp; with_reducible rfl
    try simp only [Act.put, List.setIfInBounds_toArray, List.set_cons_zero, List.set_cons_succ]
    refine wpT_tk 11 120 (v := ?_) hS rfl rfl (by rfl) (hy := fun w hw => ?_) (h := ?_)
    rotate_left
    · have y0 := keptBelow hw y0; have y1 := keptBelow hw y1; have y2 := keptBelow hw y2; have y3 := keptBelow hw y3; have y4 := keptBelow hw y4; have y5 := keptBelow hw y5; go_simp; with_reducible rfl
    try simp only [Act.put, List.setIfInBounds_toArray, List.set_cons_zero, List.set_cons_succ]
    refine wpT_tk 14 123 (v := ?_) hS rfl rfl (by rfl) (hy := fun w hw => ?_) (h := ?_)
    rotate_left
    · have z0 := keptBelow hw z0; have z1 := keptBelow hw z1; have z2 := keptBelow hw z2; have z3 := keptBelow hw z3; have z4 := keptBelow hw z4; have z5 := keptBelow hw z5; go_simp; with_reducible rfl
    try simp only [Act.put, List.setIfInBounds_toArray, List.set_cons_zero, List.set_cons_succ]
    refine wpT_oneW 10 rfl (by rfl) (by kernel_rfl) ?_
    go_simp
    refine ⟨trivial, ?_⟩
    have hc := HKWA.out _ (HA.out.via hS) (HT.out.via hS)
    refine (callsIn_wide.2 hc).mono ?_
    clear hc
    rintro e y4w ⟨rfl, hB⟩
    replace hS := belowStep hS hB
    clear hB
    refine ⟨hS, ?_⟩
    refine wpT_oneW 12 rfl (by rfl) (by kernel_rfl) ?_
    go_simp
    refine ⟨trivial, ?_⟩
    have hc := HKWB.out _ (HD.out.via hS) (HT.out.via hS)
    refine (callsIn_wide.2 hc).mono ?_
    clear hc
    rintro e y5w ⟨rfl, hB⟩
    replace hS := belowStep hS hB
    clear hB
    refine ⟨hS, ?_⟩
    refine wpT_tk 13 122 (v := ?_) hS rfl rfl (by rfl) (hy := fun w hw => ?_) (h := ?_)
    rotate_left
    · go_simp; with_reducible rfl
    try simp only [Act.put, List.setIfInBounds_toArray, List.set_cons_zero, List.set_cons_succ]
    refine wpT_oneW 15 rfl (by rfl) (by kernel_rfl) ?_
    go_simp
    refine ⟨trivial, ?_⟩
    have hc := HKWU.out _ (HU.out.via hS) (HT.out.via hS)
    refine (callsIn_wide.2 hc).mono ?_
    clear hc
    rintro e y6w ⟨rfl, hB⟩
    replace hS := belowStep hS hB
    clear hB
    refine ⟨hS, ?_⟩
    refine wpT_tk 16 125 (v := ?_) hS rfl rfl (by rfl) (hy := fun w hw => ?_) (h := ?_)
    rotate_left
    · go_simp; with_reducible rfl
    try simp only [Act.put, List.setIfInBounds_toArray, List.set_cons_zero, List.set_cons_succ]
    refine wpT_tk 17 126 (v := ?_) hS rfl rfl (by rfl) (hy := fun w hw => ?_) (h := ?_)
    rotate_left
    · go_simp; with_reducible rfl
    try simp only [Act.put, List.setIfInBounds_toArray, List.set_cons_zero, List.set_cons_succ]
    refine wpT_tk 18 127 (v := ?_) hS rfl rfl (by rfl) (hy := fun w hw => ?_) (h := ?_)
    rotate_left
    · go_simp; with_reducible rfl
    try simp only [Act.put, List.setIfInBounds_toArray, List.set_cons_zero, List.set_cons_succ]
    refine wpT_tk 19 128 (v := ?_) hS rfl rfl (by rfl) (hy := fun w hw => ?_) (h := ?_)
    rotate_left
    · have x0 := keptBelow hw x0; have x1 := keptBelow hw x1; have x2 := keptBelow hw x2; have x3 := keptBelow hw x3; have x4 := keptBelow hw x4; have x5 := keptBelow hw x5; go_simp; with_reducible rfl
    try simp only [Act.put, List.setIfInBounds_toArray, List.set_cons_zero, List.set_cons_succ]
    refine wpT_tk 21 130 (v := ?_) hS rfl rfl (by rfl) (hy := fun w hw => ?_) (h := ?_)
    rotate_left
    · have y0 := keptBelow hw y0; have y1 := keptBelow hw y1; have y2 := keptBelow hw y2; have y3 := keptBelow hw y3; have y4 := keptBelow hw y4; have y5 := keptBelow hw y5; go_simp; with_reducible rfl
    try simp only [Act.put, List.setIfInBounds_toArray, List.set_cons_zero, List.set_cons_succ]
    refine wpT_tk 24 133 (v := ?_) hS rfl rfl (by rfl) (hy := fun w hw => ?_) (h := ?_)
    rotate_left
    · have z0 := keptBelow hw z0; have z1 := keptBelow hw z1; have z2 := keptBelow hw z2; have z3 := keptBelow hw z3; have z4 := keptBelow hw z4; have z5 := keptBelow hw z5; go_simp; with_reducible rfl
    try simp only [Act.put, List.setIfInBounds_toArray, List.set_cons_zero, List.set_cons_succ]
    refine wpT_oneW 20 rfl (by rfl) (by kernel_rfl) ?_
    go_simp
    refine ⟨trivial, ?_⟩
    have hc := HKMA.out _ (HA.out.via hS) (HT.out.via hS)
    refine (callsIn_wide.2 hc).mono ?_
    clear hc
    rintro e y7w ⟨rfl, hB⟩
    replace hS := belowStep hS hB
    clear hB
    refine ⟨hS, ?_⟩
    refine wpT_oneW 22 rfl (by rfl) (by kernel_rfl) ?_
    go_simp
    refine ⟨trivial, ?_⟩
    have hc := HKMB.out _ (HD.out.via hS) (HT.out.via hS)
    refine (callsIn_wide.2 hc).mono ?_
    clear hc
    rintro e y8w ⟨rfl, hB⟩
    replace hS := belowStep hS hB
    clear hB
    refine ⟨hS, ?_⟩
    refine wpT_tk 23 132 (v := ?_) hS rfl rfl (by rfl) (hy := fun w hw => ?_) (h := ?_)
    rotate_left
    · go_simp; with_reducible rfl
    try simp only [Act.put, List.setIfInBounds_toArray, List.set_cons_zero, List.set_cons_succ]
    refine wpT_oneW 25 rfl (by rfl) (by kernel_rfl) ?_
    go_simp
    refine ⟨trivial, ?_⟩
    have hc := HKMU.out _ (HU.out.via hS) (HT.out.via hS)
    refine (callsIn_wide.2 hc).mono ?_
    clear hc
    rintro e y9w ⟨rfl, hB⟩
    replace hS := belowStep hS hB
    clear hB
    refine ⟨hS, ?_⟩
    refine wpT_tk 26 135 (v := ?_) hS rfl rfl (by rfl) (hy := fun w hw => ?_) (h := ?_)
    rotate_left
    · go_simp; with_reducible rfl
    try simp only [Act.put, List.setIfInBounds_toArray, List.set_cons_zero, List.set_cons_succ]
    refine wpT_tk 27 136 (v := ?_) hS rfl rfl (by rfl) (hy := fun w hw => ?_) (h := ?_)
    rotate_left
    · go_simp; with_reducible rfl
    try simp only [Act.put, List.setIfInBounds_toArray, List.set_cons_zero, List.set_cons_succ]
    refine wpT_oneW 28 rfl (by rfl) (by kernel_rfl) ?_
    go_simp
    try refine ⟨(fun h => by cases h), ?_⟩
    refine wpT_done (by kernel_rfl) ?_ _
    clear x0 x1 x2 x3 x4 x5
    clear y0 y1 y2 y3 y4 y5
    clear z0 z1 z2 z3 z4 z5
    have hB := hS
    clear hS HKVA HKVB HKVU HKWA HKWB HKWU HKMA HKMB HKMU ev et em HVO HWO HMO
    replace HU := Lib.hid (HU.out.via hB)
    replace HA := Lib.hid (HA.out.via hB)
    replace HD := Lib.hid (HD.out.via hB)
    replace HT := Lib.hid (HT.out.via hB)
    replace HX1 := Lib.hid (heap_below hB HX1.out)
    replace HX3 := Lib.hid (heap_below hB HX3.out)
    replace HX4 := Lib.hid (heap_below hB HX4.out)
    replace HX5 := Lib.hid (heap_below hB HX5.out)
    replace HX6 := Lib.hid (heap_below hB HX6.out)
    replace HB := Lib.hid (belowStep HB.out hB)
    clear hB
    have x0 := cell_heap HX3.out (i := 0) rfl
    have x1 := cell_heap HX3.out (i := 1) rfl
    have x2 := cell_heap HX3.out (i := 2) rfl
    have x3 := cell_heap HX3.out (i := 3) rfl
    have x4 := cell_heap HX3.out (i := 4) rfl
    have x5 := cell_heap HX3.out (i := 5) rfl
    go_wp2_with fail
    clear x0 x1 x2 x3 x4 x5
    have hc := validU_w (shpU u a) _ _ HA.out
    rw [(valU_iff (shpU u a)).2 HCF.out.va] at hc
    refine hc.mono ?_
    clear hc
    rintro e z1w ⟨rfl, hB⟩
    replace HU := Lib.hid (HU.out.via hB)
    replace HA := Lib.hid (HA.out.via hB)
    replace HD := Lib.hid (HD.out.via hB)
    replace HT := Lib.hid (HT.out.via hB)
    replace HX1 := Lib.hid (heap_below hB HX1.out)
    replace HX3 := Lib.hid (heap_below hB HX3.out)
    replace HX4 := Lib.hid (heap_below hB HX4.out)
    replace HX5 := Lib.hid (heap_below hB HX5.out)
    replace HX6 := Lib.hid (heap_below hB HX6.out)
    replace HB := Lib.hid (belowStep HB.out hB)
    clear hB
    have y0 := cell_heap HX4.out (i := 0) rfl
    have y1 := cell_heap HX4.out (i := 1) rfl
    have y2 := cell_heap HX4.out (i := 2) rfl
    have y3 := cell_heap HX4.out (i := 3) rfl
    have y4 := cell_heap HX4.out (i := 4) rfl
    have y5 := cell_heap HX4.out (i := 5) rfl
    go_wp2_with fail
    clear y0 y1 y2 y3 y4 y5
    have hc := validU_w (shpU u b) _ _ HD.out
    rw [(valU_iff (shpU u b)).2 HCF.out.vb] at hc
    refine hc.mono ?_
    clear hc
    rintro e z2w ⟨rfl, hB⟩
    replace HU := Lib.hid (HU.out.via hB)
    replace HA := Lib.hid (HA.out.via hB)
    replace HD := Lib.hid (HD.out.via hB)
    replace HT := Lib.hid (HT.out.via hB)
    replace HX1 := Lib.hid (heap_below hB HX1.out)
    replace HX3 := Lib.hid (heap_below hB HX3.out)
    replace HX4 := Lib.hid (heap_below hB HX4.out)
    replace HX5 := Lib.hid (heap_below hB HX5.out)
    replace HX6 := Lib.hid (heap_below hB HX6.out)
    replace HB := Lib.hid (belowStep HB.out hB)
    clear hB
    have x0 := cell_heap HX3.out (i := 0) rfl
    have x1 := cell_heap HX3.out (i := 1) rfl
    have x2 := cell_heap HX3.out (i := 2) rfl
    have x3 := cell_heap HX3.out (i := 3) rfl
    have x4 := cell_heap HX3.out (i := 4) rfl
    have x5 := cell_heap HX3.out (i := 5) rfl
    have y0 := cell_heap HX4.out (i := 0) rfl
    have y1 := cell_heap HX4.out (i := 1) rfl
    have y2 := cell_heap HX4.out (i := 2) rfl
    have y3 := cell_heap HX4.out (i := 3) rfl
    have y4 := cell_heap HX4.out (i := 4) rfl
    have y5 := cell_heap HX4.out (i := 5) rfl
    go_wp2_with fail
    clear x0 x1 x2 x3 x4 x5
    clear y0 y1 y2 y3 y4 y5
    have hc := overU_w (shpU u a) (shpU u b) _ _ _ HA.out HD.out
    rw [HCF.out.over] at hc
    refine hc.mono ?_
    clear hc
    rintro e z3w ⟨rfl, hB⟩
    replace HU := Lib.hid (HU.out.via hB)
    replace HA := Lib.hid (HA.out.via hB)
    replace HD := Lib.hid (HD.out.via hB)
    replace HT := Lib.hid (HT.out.via hB)
    replace HX1 := Lib.hid (heap_below hB HX1.out)
    replace HX3 := Lib.hid (heap_below hB HX3.out)
    replace HX4 := Lib.hid (heap_below hB HX4.out)
    replace HX5 := Lib.hid (heap_below hB HX5.out)
    replace HX6 := Lib.hid (heap_below hB HX6.out)
    replace HB := Lib.hid (belowStep HB.out hB)
    clear hB
    have x0 := cell_heap HX3.out (i := 0) rfl
    have x1 := cell_heap HX3.out (i := 1) rfl
    have x2 := cell_heap HX3.out (i := 2) rfl
    have x3 := cell_heap HX3.out (i := 3) rfl
    have x4 := cell_heap HX3.out (i := 4) rfl
    have x5 := cell_heap HX3.out (i := 5) rfl
    have z0 := cell_heap HX1.out (i := 0) rfl
    have z1 := cell_heap HX1.out (i := 1) rfl
    have z2 := cell_heap HX1.out (i := 2) rfl
    have z3 := cell_heap HX1.out (i := 3) rfl
    have z4 := cell_heap HX1.out (i := 4) rfl
    have z5 := cell_heap HX1.out (i := 5) rfl
    go_wp2_with fail
    clear x0 x1 x2 x3 x4 x5
    clear z0 z1 z2 z3 z4 z5
    have hc := overU_w (shpU u a) u _ _ _ HA.out HU.out
    rw [HCF.out.over1] at hc
    refine hc.mono ?_
    clear hc
    rintro e z4w ⟨rfl, hB⟩
    replace HU := Lib.hid (HU.out.via hB)
    replace HA := Lib.hid (HA.out.via hB)
    replace HD := Lib.hid (HD.out.via hB)
    replace HT := Lib.hid (HT.out.via hB)
    replace HX1 := Lib.hid (heap_below hB HX1.out)
    replace HX3 := Lib.hid (heap_below hB HX3.out)
    replace HX4 := Lib.hid (heap_below hB HX4.out)
    replace HX5 := Lib.hid (heap_below hB HX5.out)
    replace HX6 := Lib.hid (heap_below hB HX6.out)
    replace HB := Lib.hid (belowStep HB.out hB)
    clear hB
    have z0 := cell_heap HX1.out (i := 0) rfl
    have z1 := cell_heap HX1.out (i := 1) rfl
    have z2 := cell_heap HX1.out (i := 2) rfl
    have z3 := cell_heap HX1.out (i := 3) rfl
    have z4 := cell_heap HX1.out (i := 4) rfl
    have z5 := cell_heap HX1.out (i := 5) rfl
    have y0 := cell_heap HX4.out (i := 0) rfl
    have y1 := cell_heap HX4.out (i := 1) rfl
    have y2 := cell_heap HX4.out (i := 2) rfl
    have y3 := cell_heap HX4.out (i := 3) rfl
    have y4 := cell_heap HX4.out (i := 4) rfl
    have y5 := cell_heap HX4.out (i := 5) rfl
    go_wp2_with fail
    clear z0 z1 z2 z3 z4 z5
    clear y0 y1 y2 y3 y4 y5
    have hc := overU_w u (shpU u b) _ _ _ HU.out HD.out
    rw [HCF.out.over2] at hc
    refine hc.mono ?_
    clear hc
    rintro e z5w ⟨rfl, hB⟩
    replace HU := Lib.hid (HU.out.via hB)
    replace HA := Lib.hid (HA.out.via hB)
    replace HD := Lib.hid (HD.out.via hB)
    replace HT := Lib.hid (HT.out.via hB)
    replace HX1 := Lib.hid (heap_below hB HX1.out)
    replace HX3 := Lib.hid (heap_below hB HX3.out)
    replace HX4 := Lib.hid (heap_below hB HX4.out)
    replace HX5 := Lib.hid (heap_below hB HX5.out)
    replace HX6 := Lib.hid (heap_below hB HX6.out)
    replace HB := Lib.hid (belowStep HB.out hB)
    clear hB
    have x0 := cell_heap HX5.out (i := 0) rfl
    have x1 := cell_heap HX5.out (i := 1) rfl
    have x2 := cell_heap HX5.out (i := 2) rfl
    have x3 := cell_heap HX5.out (i := 3) rfl
    have x4 := cell_heap HX5.out (i := 4) rfl
    have x5 := cell_heap HX5.out (i := 5) rfl
    have x6 := cell_heap HX5.out (i := 6) rfl
    have x7 := cell_heap HX5.out (i := 7) rfl
    have y0 := cell_heap HX6.out (i := 0) rfl
    have y1 := cell_heap HX6.out (i := 1) rfl
    have y2 := cell_heap HX6.out (i := 2) rfl
    have y3 := cell_heap HX6.out (i := 3) rfl
    have z0 := cell_heap HX1.out (i := 0) rfl
    have z1 := cell_heap HX1.out (i := 1) rfl
    have z2 := cell_heap HX1.out (i := 2) rfl
    have z3 := cell_heap HX1.out (i := 3) rfl
    have z4 := cell_heap HX1.out (i := 4) rfl
    have z5 := cell_heap HX1.out (i := 5) rfl
    go_wp2_with fail
    go_ret
    exact ⟨rfl, HB.out⟩
end Go.Proofs.YtcamncipkofgkaaDoor
