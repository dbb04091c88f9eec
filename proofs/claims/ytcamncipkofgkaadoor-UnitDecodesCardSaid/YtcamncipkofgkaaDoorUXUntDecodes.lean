/- The walk of UnitDecodes. -/
import Derived.Test.YtcamncipkofgkaaDoorUM10
import Derived.Test.YtcamncipkofgkaaDoorUX1
import Derived.Test.YtcamncipkofgkaaDoorUT1
import Derived.Laws.BytesArg
namespace Go.Proofs.YtcamncipkofgkaaDoor
open Go.RowKit Go.Shelf Pln Unt Putlog
theorem sameU_swap (u t : U) : sameU t u = sameU u t := by
  rw [Bool.eq_iff_iff, sameU_iff, sameU_iff]
  exact ⟨Eq.symm, Eq.symm⟩
theorem su_sameU {u : U} {s r : Value} {w : World} (h1 : UAt w s u) (h2 : UAt w r u) : Calls Tryd.prog 32 #[uv u s, uv u r] w fun e w' => e = .returned (.bool true) ∧ Below w.heap.size w w' := by
  have := sameU_w u u s r w h1 h2
  rwa [(sameU_iff u u).2 rfl] at this
set_option maxRecDepth 100000 in
set_option maxHeartbeats 4000000 in
theorem unitDecodes_w (x y : List Pt) (hx : (x.length : Int) ≤ 9223372036854775807) (hy : (y.length : Int) ≤ 9223372036854775807) (how : Int) (hh : I64 how) (a0 a1 a2 a3 : Int) (b0 b1 b2 b3 : Int)
    (ha : I64 a0 ∧ I64 a1 ∧ I64 a2 ∧ I64 a3) (hb : I64 b0 ∧ I64 b1 ∧ I64 b2 ∧ I64 b3) (at' : Int) (hat : I64 at') (c : Int) (hc0 : 0 ≤ c ∧ c ≤ 255) (txt : ByteArray) (htx : txt.size ≤ 9223372036854775807) (vx1 vx2 : Value) (w : World) (h1 : PtsAt w vx1 x) (h2 : PtsAt w vx2 y) (hT : TabU w) :
    Calls Tryd.prog 9 #[vx1, vx2, .int .i64 how, .agg #[.int .i64 a0, .int .i64 a1, .int .i64 a2, .int .i64 a3], .agg #[.int .i64 b0, .int .i64 b1, .int .i64 b2, .int .i64 b3], .int .i64 at', .int .u8 c, .string txt] w fun e w' => e = .returned (.bool true) ∧ Below w.heap.size w w' := by
  have HH := Lib.hid hh
  have HA := Lib.hid ha
  have HA2 := Lib.hid hb
  have HX := Lib.hid hx
  have HAT := Lib.hid hat
  have HC := Lib.hid hc0
  have HTX := Lib.hid htx
  clear hat hc0 htx
  have HY := Lib.hid hy
  have hB0 := alloc_below w (.cells #[.int .i64 a0, .int .i64 a1, .int .i64 a2, .int .i64 a3] 23)
  have hB := belowStep hB0 (alloc_below (w.alloc (.cells #[.int .i64 a0, .int .i64 a1, .int .i64 a2, .int .i64 a3] 23)) (.cells #[.int .i64 b0, .int .i64 b1, .int .i64 b2, .int .i64 b3] 23))
  have HP := Lib.hid (heap_below (alloc_below (w.alloc (.cells #[.int .i64 a0, .int .i64 a1, .int .i64 a2, .int .i64 a3] 23)) (.cells #[.int .i64 b0, .int .i64 b1, .int .i64 b2, .int .i64 b3] 23)) (heap_alloc_new w (.cells #[.int .i64 a0, .int .i64 a1, .int .i64 a2, .int .i64 a3] 23)))
  have HQ := Lib.hid (heap_alloc_new (w.alloc (.cells #[.int .i64 a0, .int .i64 a1, .int .i64 a2, .int .i64 a3] 23)) (.cells #[.int .i64 b0, .int .i64 b1, .int .i64 b2, .int .i64 b3] 23))
  have hsz : (w.alloc (.cells #[.int .i64 a0, .int .i64 a1, .int .i64 a2, .int .i64 a3] 23)).heap.size = w.heap.size + 1 := by simp
  rw [hsz] at HQ
  clear hB0 hsz
  have H1 := Lib.hid (h1.via hB)
  have H2 := Lib.hid (h2.via hB)
  have HT := Lib.hid (hT.via hB)
  have HB := Lib.hid hB
  clear hh ha hx hy h1 h2 hT hB hb
  go_enter Tryd.func9, Tryd.ntmps9
  go_wp2_with fail
  refine (sane8_w _ HT.out).mono ?_
  rintro e w1 ⟨rfl, hB⟩
  have HP1 := heap_below hB HP.out
  have p0 := cell_heap HP1 (i := 0) rfl
  have p1 := cell_heap HP1 (i := 1) rfl
  have p2 := cell_heap HP1 (i := 2) rfl
  have p3 := cell_heap HP1 (i := 3) rfl
  have HQ1 := heap_below hB HQ.out
  have q0 := cell_heap HQ1 (i := 0) rfl
  have q1 := cell_heap HQ1 (i := 1) rfl
  have q2 := cell_heap HQ1 (i := 2) rfl
  have q3 := cell_heap HQ1 (i := 3) rfl
  replace H1 := Lib.hid (H1.out.via hB)
  replace H2 := Lib.hid (H2.out.via hB)
  replace HT := Lib.hid (HT.out.via hB)
  replace HB := Lib.hid (belowStep HB.out hB)
  clear hB HP HP1 HQ HQ1
  go_wp2_with fail
  clear p0 p1 p2 p3 q0 q1 q2 q3
  refine (pair8_w x y HX.out HY.out how HH.out a0 a1 a2 a3 b0 b1 b2 b3 HA.out HA2.out vx1 vx2 _ H1.out H2.out).mono ?_
  rintro e w2 ⟨u, t, r, s, rfl, vu, vt, hu, ht, hB⟩
  replace HT := Lib.hid (HT.out.via hB)
  replace HB := Lib.hid (belowStep HB.out hB)
  have HU := Lib.hid hu
  have VU := Lib.hid vu
  have HV := Lib.hid ht
  have VT := Lib.hid vt
  obtain ⟨ar, cr, rfl⟩ : ∃ a c, r = .slice a u.shape.length c := by obtain ⟨⟨a, c, h, _⟩, _⟩ := hu.at_; exact ⟨a, c, h⟩
  obtain ⟨at1, ct1, rfl⟩ : ∃ a c, s = .slice a t.shape.length c := by obtain ⟨⟨a, c, h, _⟩, _⟩ := ht.at_; exact ⟨a, c, h⟩
  clear hu ht vt vu hB H1 H2 HH HA HX HY HA2
  unfold uv
  go_upto_region 5 with fail
  obtain ⟨v1, hv1⟩ : ∃ v : World, v = (w2.alloc (.cells #[.int .i64 u.id, .int .i64 u.kind, .int .i64 u.mat, .slice ar u.shape.length cr, .int .i64 u.back, .int .i64 u.front] 27)).alloc (.cells #[.int .i64 t.id, .int .i64 t.kind, .int .i64 t.mat, .slice at1 t.shape.length ct1, .int .i64 t.back, .int .i64 t.front] 27) := ⟨_, rfl⟩
  have hB1 : Below w2.heap.size w2 (w2.alloc (.cells #[.int .i64 u.id, .int .i64 u.kind, .int .i64 u.mat, .slice ar u.shape.length cr, .int .i64 u.back, .int .i64 u.front] 27)) := alloc_below _ _
  have hB2 : Below (w2.alloc (.cells #[.int .i64 u.id, .int .i64 u.kind, .int .i64 u.mat, .slice ar u.shape.length cr, .int .i64 u.back, .int .i64 u.front] 27)).heap.size (w2.alloc (.cells #[.int .i64 u.id, .int .i64 u.kind, .int .i64 u.mat, .slice ar u.shape.length cr, .int .i64 u.back, .int .i64 u.front] 27)) v1 := by rw [hv1]; exact alloc_below _ _
  have hs1 : (w2.alloc (.cells #[.int .i64 u.id, .int .i64 u.kind, .int .i64 u.mat, .slice ar u.shape.length cr, .int .i64 u.back, .int .i64 u.front] 27)).heap.size = w2.heap.size + 1 := by simp
  have HX1 : Hid (v1.heap[w2.heap.size]? = some (.cells #[.int .i64 u.id, .int .i64 u.kind, .int .i64 u.mat, .slice ar u.shape.length cr, .int .i64 u.back, .int .i64 u.front] 27 (0, 0))) := Lib.hid (heap_below hB2 (heap_alloc_new w2 (.cells #[.int .i64 u.id, .int .i64 u.kind, .int .i64 u.mat, .slice ar u.shape.length cr, .int .i64 u.back, .int .i64 u.front] 27)))
  have HX2 : Hid (v1.heap[w2.heap.size + 1]? = some (.cells #[.int .i64 t.id, .int .i64 t.kind, .int .i64 t.mat, .slice at1 t.shape.length ct1, .int .i64 t.back, .int .i64 t.front] 27 (0, 0))) := Lib.hid (by rw [← hs1, hv1]; exact heap_alloc_new _ _)
  have HZ : Hid (w2.heap.size + 2 ≤ v1.heap.size) := Lib.hid (by rw [hv1]; simp)
  have hB := belowStep hB1 hB2
  rw [← hv1]
  clear hB1 hB2 hs1 hv1
  replace HU := Lib.hid (HU.out.via hB)
  replace HV := Lib.hid (HV.out.via hB)
  replace HT := Lib.hid (HT.out.via hB)
  replace HB := Lib.hid (belowStep HB.out hB)
  clear hB
  have x0 := cell_heap HX1.out (i := 0) rfl
  have x1 := cell_heap HX1.out (i := 1) rfl
  have x2 := cell_heap HX1.out (i := 2) rfl
  have x3 := cell_heap HX1.out (i := 3) rfl
  have x4 := cell_heap HX1.out (i := 4) rfl
  have x5 := cell_heap HX1.out (i := 5) rfl
  go_wp2_with fail
  clear x0 x1 x2 x3 x4 x5
  refine (enc_x VU.out _ _ HU.out).mono ?_
  rintro e w3 ⟨rfl, hB⟩
  replace HU := Lib.hid (HU.out.via hB)
  replace HV := Lib.hid (HV.out.via hB)
  replace HT := Lib.hid (HT.out.via hB)
  replace HX1 := Lib.hid (heap_below hB HX1.out)
  replace HX2 := Lib.hid (heap_below hB HX2.out)
  replace HB := Lib.hid (belowStep HB.out hB)
  clear hB
  have y0 := cell_heap HX2.out (i := 0) rfl
  have y1 := cell_heap HX2.out (i := 1) rfl
  have y2 := cell_heap HX2.out (i := 2) rfl
  have y3 := cell_heap HX2.out (i := 3) rfl
  have y4 := cell_heap HX2.out (i := 4) rfl
  have y5 := cell_heap HX2.out (i := 5) rfl
  go_wp2_with fail
  clear y0 y1 y2 y3 y4 y5
  refine (enc_x VT.out _ _ HV.out).mono ?_
  rintro e w4 ⟨rfl, hB⟩
  replace HU := Lib.hid (HU.out.via hB)
  replace HV := Lib.hid (HV.out.via hB)
  replace HT := Lib.hid (HT.out.via hB)
  replace HX1 := Lib.hid (heap_below hB HX1.out)
  replace HX2 := Lib.hid (heap_below hB HX2.out)
  replace HB := Lib.hid (belowStep HB.out hB)
  clear hB
  go_wp2_with fail
  refine (decx_some VU.out _).mono ?_
  rintro e w5 ⟨rk, kk, rfl, hk, hB⟩
  replace HU := Lib.hid (HU.out.via hB)
  replace HV := Lib.hid (HV.out.via hB)
  replace HT := Lib.hid (HT.out.via hB)
  replace HX1 := Lib.hid (heap_below hB HX1.out)
  replace HX2 := Lib.hid (heap_below hB HX2.out)
  replace HB := Lib.hid (belowStep HB.out hB)
  clear hB
  have HK := Lib.hid hk
  clear hk
  have hB := alloc_below w5 (.cells #[.int .i64 u.id, .int .i64 u.kind, .int .i64 u.mat, .slice rk u.shape.length kk, .int .i64 u.back, .int .i64 u.front] 27)
  have HX3 := Lib.hid (heap_alloc_new w5 (.cells #[.int .i64 u.id, .int .i64 u.kind, .int .i64 u.mat, .slice rk u.shape.length kk, .int .i64 u.back, .int .i64 u.front] 27))
  replace HU := Lib.hid (HU.out.via hB)
  replace HV := Lib.hid (HV.out.via hB)
  replace HK := Lib.hid (HK.out.via hB)
  replace HT := Lib.hid (HT.out.via hB)
  replace HX1 := Lib.hid (heap_below hB HX1.out)
  replace HX2 := Lib.hid (heap_below hB HX2.out)
  replace HB := Lib.hid (belowStep HB.out hB)
  clear hB
  have hEQ := encX_eq VU.out VT.out
  have hPA := fun h => encX_pre VU.out VT.out h
  have hPB := fun h => encX_pre VT.out VU.out h
  have hzs := sameU_swap u t
  rw [hzs] at hPB
  clear hzs
  have hSA := encX_size VU.out
  have hSB := encX_size VT.out
  have HEQ := Lib.hid hEQ
  have HPA := Lib.hid hPA
  have HPB := Lib.hid hPB
  clear hEQ hPA hPB
  have HSAME := Lib.hid (fun (w6 : World) (ha : UAt w6 (.slice ar u.shape.length cr) u) (hb : UAt w6 (.slice at1 t.shape.length ct1) t) => sameU_w u t _ _ w6 ha hb)
  obtain ⟨st, hst⟩ : ∃ s, s = sameU u t := ⟨_, rfl⟩
  rw [← hst] at HEQ HPA HPB HSAME
  clear hst
  generalize encX u = sa at *
  generalize encX t = sb at *
  obtain ⟨sa0, sa1⟩ := hSA
  obtain ⟨sb0, sb1⟩ := hSB
  have sa2 : (0 : Int) < sa.size := by omega
  have sa3 : (sa.size : Int) ≤ 1000 := by omega
  have sb3 : (sb.size : Int) ≤ 1000 := by omega
  have sb2 : (0 : Int) < sb.size := by omega
  have hsan : ¬ (sa = ByteArray.empty) := fun e => by rw [e] at sa0; simp at sa0
  have x0 := cell_heap HX1.out (i := 0) rfl
  have x1 := cell_heap HX1.out (i := 1) rfl
  have x2 := cell_heap HX1.out (i := 2) rfl
  have x3 := cell_heap HX1.out (i := 3) rfl
  have x4 := cell_heap HX1.out (i := 4) rfl
  have x5 := cell_heap HX1.out (i := 5) rfl
  have z0 := cell_heap HX3.out (i := 0) rfl
  have z1 := cell_heap HX3.out (i := 1) rfl
  have z2 := cell_heap HX3.out (i := 2) rfl
  have z3 := cell_heap HX3.out (i := 3) rfl
  have z4 := cell_heap HX3.out (i := 4) rfl
  have z5 := cell_heap HX3.out (i := 5) rfl
  go_wp2_with fail
  clear x0 x1 x2 x3 x4 x5
  clear z0 z1 z2 z3 z4 z5
  refine (su_sameU HK.out HU.out).mono ?_
  rintro e w6 ⟨rfl, hB⟩
  replace HU := Lib.hid (HU.out.via hB)
  replace HV := Lib.hid (HV.out.via hB)
  replace HK := Lib.hid (HK.out.via hB)
  replace HT := Lib.hid (HT.out.via hB)
  replace HX1 := Lib.hid (heap_below hB HX1.out)
  replace HX2 := Lib.hid (heap_below hB HX2.out)
  replace HX3 := Lib.hid (heap_below hB HX3.out)
  replace HB := Lib.hid (belowStep HB.out hB)
  clear hB
  have x0 := cell_heap HX1.out (i := 0) rfl
  have x1 := cell_heap HX1.out (i := 1) rfl
  have x2 := cell_heap HX1.out (i := 2) rfl
  have x3 := cell_heap HX1.out (i := 3) rfl
  have x4 := cell_heap HX1.out (i := 4) rfl
  have x5 := cell_heap HX1.out (i := 5) rfl
  have y0 := cell_heap HX2.out (i := 0) rfl
  have y1 := cell_heap HX2.out (i := 1) rfl
  have y2 := cell_heap HX2.out (i := 2) rfl
  have y3 := cell_heap HX2.out (i := 3) rfl
  have y4 := cell_heap HX2.out (i := 4) rfl
  have y5 := cell_heap HX2.out (i := 5) rfl
  go_wp2_with fail
  clear x0 x1 x2 x3 x4 x5
  clear y0 y1 y2 y3 y4 y5
  refine (HSAME.out _ HU.out HV.out).mono ?_
  rintro e w7 ⟨rfl, hB⟩
  replace HU := Lib.hid (HU.out.via hB)
  replace HV := Lib.hid (HV.out.via hB)
  replace HK := Lib.hid (HK.out.via hB)
  replace HT := Lib.hid (HT.out.via hB)
  replace HX1 := Lib.hid (heap_below hB HX1.out)
  replace HX2 := Lib.hid (heap_below hB HX2.out)
  replace HX3 := Lib.hid (heap_below hB HX3.out)
  replace HB := Lib.hid (belowStep HB.out hB)
  clear hB
  have heq := HEQ.out
  have hpk := pkN_in (c := at') (n := (sa.size : Int)) sa2
  obtain ⟨p, hp⟩ : ∃ p : Nat, (p : Int) = pkN at' (sa.size : Int) := ⟨(pkN at' (sa.size : Int)).toNat, by omega⟩
  have hps : p < sa.size := by omega
  have hps2 : (p : Int) < sa.size := by omega
  have hps3 : (p : Int) + 1 ≤ sa.size := by omega
  have HPK : Hid (∀ w : World, Calls Tryd.prog 29 #[.int .i64 at', .int .i64 (sa.size : Int)] w fun e w' => e = .returned (.int .i64 (p : Int)) ∧ w = w') := Lib.hid (fun w => by rw [hp]; exact pickL8_w at' _ HAT.out sa2 sa3 w)
  clear hpk hp
  go_upto_region 10 with fail
  go_cut [122] (fun s wx => s = .bool false ∧ wx = w7)
  case first =>
    cases st with
    | true =>
      go_wp2_with fail
      go_meet
      case rel => exact ⟨rfl, rfl⟩
    | false =>
      have hpa := HPA.out rfl
      have hpb := HPB.out rfl
      rcases Nat.lt_trichotomy sa.size sb.size with h | h | h
      · have c1 : (sa.size : Int) ≤ sb.size := by omega
        have c2 : ¬ (sb.size : Int) ≤ sa.size := by omega
        clear h
        go_wp2_with fail
        go_meet
        case rel => exact ⟨rfl, rfl⟩
      · have c1 : (sa.size : Int) ≤ sb.size := by omega
        have c2 : (sb.size : Int) ≤ sa.size := by omega
        clear h
        go_wp2_with fail
        go_meet
        case rel => exact ⟨rfl, rfl⟩
      · have c1 : ¬ (sa.size : Int) ≤ sb.size := by omega
        have c2 : (sb.size : Int) ≤ sa.size := by omega
        clear h
        go_wp2_with fail
        go_meet
        case rel => exact ⟨rfl, rfl⟩
  case rest =>
    obtain ⟨rfl, rfl⟩ := hcut
    go_wp2_with fail
    refine (HPK.out _).mono ?_
    rintro e wx ⟨rfl, rfl⟩
    obtain ⟨m, hm⟩ : ∃ m : Nat, m = min txt.size 60 := ⟨_, rfl⟩
    have hm1 : m ≤ txt.size := by omega
    have hm2 : (m : Int) ≤ 60 := by omega
    have hm3 : (m : Int) ≤ txt.size := by omega
    have hmm : (if (60 : Int) < txt.size then (60 : Int) else txt.size) = (m : Int) := by split <;> omega
    clear hm
    go_upto_region 13 with fail
    refine (wpIn_wide (n := 5)).1 ?_
    refine wpIn_region_T (fun w' => Below wc.drew.heap.size wc.drew w') 17 (by kernel_rfl) ?_
    have HD : Hid (Below wc.heap.size wc wc.drew) := Lib.hid ((Below.refl _ _).drew)
    obtain ⟨wd, hwd⟩ : ∃ v : World, v = wc.drew := ⟨_, rfl⟩
    rw [← hwd] at HD ⊢
    clear hwd
    have HB := Lib.hid (belowStep HB.out HD.out)
    have HT := Lib.hid (HT.out.via HD.out)
    clear HD
    have hple : p ≤ sa.size := by omega
    have hp6 : (0 : Int) ≤ (p : Int) + 1 := by omega
    refine wpT_pure 19 146 (v := .int .i64 0) (Below.refl _ _) rfl rfl (by rfl) (hy := fun w => ?_) (h := ?_)
    · go_simp
    try simp only [Act.put, List.setIfInBounds_toArray, List.set_cons_zero, List.set_cons_succ]
    refine wpT_tk 0 127 (v := ?_) (Below.refl _ _) rfl rfl (by rfl) (hy := fun w hw => ?_) (h := ?_)
    rotate_left
    · go_simp; with_reducible rfl
    try simp only [Act.put, List.setIfInBounds_toArray, List.set_cons_zero, List.set_cons_succ]
    refine wpT_tk 1 128 (v := ?_) (Below.refl _ _) rfl rfl (by rfl) (hy := fun w hw => ?_) (h := ?_)
    rotate_left
    · go_simp; with_reducible rfl
    try simp only [Act.put, List.setIfInBounds_toArray, List.set_cons_zero, List.set_cons_succ]
    refine wpT_tk 2 129 (v := ?_) (Below.refl _ _) rfl rfl (by rfl) (hy := fun w hw => ?_) (h := ?_)
    rotate_left
    · go_simp; with_reducible rfl
    try simp only [Act.put, List.setIfInBounds_toArray, List.set_cons_zero, List.set_cons_succ]
    refine wpT_tk 3 130 (v := ?_) (Below.refl _ _) rfl rfl (by rfl) (hy := fun w hw => ?_) (h := ?_)
    rotate_left
    · go_simp; with_reducible rfl
    try simp only [Act.put, List.setIfInBounds_toArray, List.set_cons_zero, List.set_cons_succ]
    refine wpT_tk 7 134 (v := ?_) (Below.refl _ _) rfl rfl (by rfl) (hy := fun w hw => ?_) (h := ?_)
    rotate_left
    · go_simp; with_reducible rfl
    try simp only [Act.put, List.setIfInBounds_toArray, List.set_cons_zero, List.set_cons_succ]
    refine wpT_tk 8 135 (v := ?_) (Below.refl _ _) rfl rfl (by rfl) (hy := fun w hw => ?_) (h := ?_)
    rotate_left
    · go_simp; with_reducible rfl
    try simp only [Act.put, List.setIfInBounds_toArray, List.set_cons_zero, List.set_cons_succ]
    have hwr : IntKind.i64.wrap ((p : Int) + 1) = ((p + 1 : Nat) : Int) := by rw [Int.natCast_succ]; exact IntWalk.i64_in _ (by omega)
    refine wpT_tk 9 136 (v := ?_) (Below.refl _ _) rfl rfl (by rfl) (hy := fun w hw => ?_) (h := ?_)
    rotate_left
    · go_simp; with_reducible rfl
    try simp only [Act.put, List.setIfInBounds_toArray, List.set_cons_zero, List.set_cons_succ]
    have hp5 : p + 1 ≤ sa.size := by omega
    refine wpT_tk 10 137 (v := ?_) (Below.refl _ _) rfl rfl (by rfl) (hy := fun w hw => ?_) (h := ?_)
    rotate_left
    · go_simp; with_reducible rfl
    try simp only [Act.put, List.setIfInBounds_toArray, List.set_cons_zero, List.set_cons_succ]
    refine wpT_tk 12 139 (v := ?_) (Below.refl _ _) rfl rfl (by rfl) (hy := fun w hw => ?_) (h := ?_)
    rotate_left
    · go_simp; with_reducible rfl
    try simp only [Act.put, List.setIfInBounds_toArray, List.set_cons_zero, List.set_cons_succ]
    refine wpT_tk 13 140 (v := ?_) (Below.refl _ _) rfl rfl (by rfl) (hy := fun w hw => ?_) (h := ?_)
    rotate_left
    · go_simp; with_reducible rfl
    try simp only [Act.put, List.setIfInBounds_toArray, List.set_cons_zero, List.set_cons_succ]
    refine wpT_tk 14 141 (v := ?_) (Below.refl _ _) rfl rfl (by rfl) (hy := fun w hw => ?_) (h := ?_)
    rotate_left
    · go_simp; with_reducible rfl
    try simp only [Act.put, List.setIfInBounds_toArray, List.set_cons_zero, List.set_cons_succ]
    refine wpT_tk 15 142 (v := ?_) (Below.refl _ _) rfl rfl (by rfl) (hy := fun w hw => ?_) (h := ?_)
    rotate_left
    · go_simp; with_reducible rfl
    try simp only [Act.put, List.setIfInBounds_toArray, List.set_cons_zero, List.set_cons_succ]
    refine wpT_tk 16 143 (v := ?_) (Below.refl _ _) rfl rfl (by rfl) (hy := fun w hw => ?_) (h := ?_)
    rotate_left
    · go_simp; with_reducible rfl
    try simp only [Act.put, List.setIfInBounds_toArray, List.set_cons_zero, List.set_cons_succ]
    have hconv := run_convert_bytes_arg (P := Tryd.prog) (wd.alloc (.cells #[.int .u8 c] 5)) 60 5 Tryd.underlying60 Tryd.underlying5 wd.heap.size 0 1 1 [c] rfl (fun i hi => by obtain rfl : i = 0 := (by omega); rw [World.cell?_alloc_new]; rfl) 9 Tryd.underlying9
    have hf1 : (strOfNums [c]).size = 1 := rfl
    generalize strOfNums [c] = f at *
    have hA := alloc_below wd (.cells #[.int .u8 c] 5)
    refine wpT_oneW 4 rfl (by rfl) (by kernel_rfl) ?_
    go_simp
    first | refine ⟨hA, ?_⟩ | skip
    obtain ⟨wb, hwb⟩ : ∃ v : World, v = wd.alloc (.cells #[.int .u8 c] 5) := ⟨_, rfl⟩
    rw [← hwb] at hconv hA ⊢
    clear hwb
    refine wpT_oneW 5 rfl (by rfl) (by kernel_rfl) ?_
    go_simp
    have hcat1 : ¬ 9223372036854775807 < p + 1 := by omega
    refine wpT_tk 6 133 (v := ?_) hA rfl rfl (by rfl) (hy := fun w hw => ?_) (h := ?_)
    rotate_left
    · go_simp; with_reducible rfl
    try simp only [Act.put, List.setIfInBounds_toArray, List.set_cons_zero, List.set_cons_succ]
    have hcat2 : ¬ 9223372036854775807 < sa.size := by omega
    refine wpT_tk 11 138 (v := ?_) hA rfl rfl (by rfl) (hy := fun w hw => ?_) (h := ?_)
    rotate_left
    · go_simp; with_reducible rfl
    try simp only [Act.put, List.setIfInBounds_toArray, List.set_cons_zero, List.set_cons_succ]
    obtain ⟨z1, hz1⟩ : ∃ z, z = sa.extract 0 p ++ f ++ sa.extract (p + 1) sa.size := ⟨_, rfl⟩
    obtain ⟨z2, hz2⟩ : ∃ z, z = txt.extract 0 m := ⟨_, rfl⟩
    have hl1 : z1.size ≤ 1000 := by rw [hz1, ByteArray.size_append, ByteArray.size_append, ByteArray.size_extract, ByteArray.size_extract, hf1]; omega
    have hl2 : z2.size ≤ 1000 := by rw [hz2, ByteArray.size_extract]; omega
    try rw [← hz1]
    try rw [← hz2]
    clear hz1 hz2 hf1 hmm hm1 hm2 hm3 hwr hcat1 hcat2
    refine wpT_oneW 17 rfl (by rfl) (by kernel_rfl) ?_
    go_simp
    try refine ⟨(fun h => by cases h), ?_⟩
    refine wpT_oneW 18 rfl (by rfl) (by kernel_rfl) ?_
    go_simp
    try refine ⟨(fun h => by cases h), ?_⟩
    refine wpT_done (by kernel_rfl) ?_ _
    have hA2 := belowStep hA (alloc_below wb (.cells #[.string z1, .string z2] 9))
    have HZ := Lib.hid (heap_alloc_new wb (.cells #[.string z1, .string z2] 9))
    obtain ⟨v9, hv9⟩ : ∃ v : World, v = wb.alloc (.cells #[.string z1, .string z2] 9) := ⟨_, rfl⟩
    rw [← hv9] at hA2 HZ ⊢
    clear hv9
    have HT := Lib.hid (HT.out.via hA2)
    have HB := Lib.hid (belowStep HB.out hA2)
    clear hA hA2
    have HL1 := Lib.hid hl1
    have HL2 := Lib.hid hl2
    clear hl1 hl2
    go_wp2_with fail
    go_loopw [146] (fun i wr => ∃ k : Nat, k ≤ 2 ∧ i = .int .i64 k ∧ Below v9.heap.size v9 wr) (fun i _ => 2 - (intOf i).toNat)
    case atStart => exact ⟨0, by omega, rfl, Below.refl _ _⟩
    case round =>
      obtain ⟨k, hk, rfl, hB⟩ := hrel
      have HBR := Lib.hid hB
      have HZ := Lib.hid (heap_below hB HZ.out)
      have HB := Lib.hid (belowStep HB.out hB)
      clear hB
      by_cases hlt : k < 2
      · have hlt' : (k : Int) < 2 := by omega
        obtain ⟨z, hzl, hzc⟩ : ∃ z : ByteArray, z.size ≤ 1000 ∧ wr.cell? ⟨wb.heap.size, k, none⟩ = some (.string z) := by
          have : k = 0 ∨ k = 1 := by omega
          rcases this with rfl | rfl
          · exact ⟨z1, HL1.out, cell_heap HZ.out (i := 0) rfl⟩
          · exact ⟨z2, HL2.out, cell_heap HZ.out (i := 1) rfl⟩
        go_wp2_with fail
        refine (decx_any z hzl _).mono ?_
        rintro e wx ⟨⟨uu, a, kx, vv, hez, rfl, hu⟩ | rfl, hB⟩
        · have oA := alloc_below wx (.cells #[.int .i64 uu.id, .int .i64 uu.kind, .int .i64 uu.mat, .slice a uu.shape.length kx, .int .i64 uu.back, .int .i64 uu.front] 27)
          have HR := Lib.hid (heap_alloc_new wx (.cells #[.int .i64 uu.id, .int .i64 uu.kind, .int .i64 uu.mat, .slice a uu.shape.length kx, .int .i64 uu.back, .int .i64 uu.front] 27))
          have HUU := Lib.hid (hu.via oA)
          have HBX := Lib.hid (belowStep hB oA)
          have HVV := Lib.hid vv
          have HEZ := Lib.hid hez
          clear hu hB oA vv hez hzc
          have x0 := cell_heap HR.out (i := 0) rfl
          have x1 := cell_heap HR.out (i := 1) rfl
          have x2 := cell_heap HR.out (i := 2) rfl
          have x3 := cell_heap HR.out (i := 3) rfl
          have x4 := cell_heap HR.out (i := 4) rfl
          have x5 := cell_heap HR.out (i := 5) rfl
          go_wp2_with fail
          have hc := enc_x HVV.out _ _ HUU.out
          rw [HEZ.out] at hc
          refine hc.mono ?_
          clear hc
          rintro e wy ⟨rfl, hB⟩
          clear x0 x1 x2 x3 x4 x5
          replace HR := Lib.hid (heap_below hB HR.out)
          replace HUU := Lib.hid (HUU.out.via hB)
          replace HBX := Lib.hid (belowStep HBX.out hB)
          clear hB
          have x0 := cell_heap HR.out (i := 0) rfl
          have x1 := cell_heap HR.out (i := 1) rfl
          have x2 := cell_heap HR.out (i := 2) rfl
          have x3 := cell_heap HR.out (i := 3) rfl
          have x4 := cell_heap HR.out (i := 4) rfl
          have x5 := cell_heap HR.out (i := 5) rfl
          go_wp2_with fail
          have hc := validU_w uu _ _ HUU.out
          rw [(valU_iff uu).2 HVV.out] at hc
          refine hc.mono ?_
          clear hc
          rintro e wz ⟨rfl, hB⟩
          replace HBX := Lib.hid (belowStep HBX.out hB)
          clear hB x0 x1 x2 x3 x4 x5
          go_wp2_with fail
          go_roundw
          case rel => exact ⟨k + 1, by omega, by go_num, belowStep HBR.out HBX.out⟩
          case measure => simp [intOf]; omega
        · have HBX := Lib.hid (belowStep hB (alloc_below wx (.cells #[.int .i64 0, .int .i64 0, .int .i64 0, .slice none 0 0, .int .i64 0, .int .i64 0] 27)))
          clear hB hzc
          go_wp2_with fail
          go_roundw
          case rel => exact ⟨k + 1, by omega, by go_num, belowStep HBR.out HBX.out⟩
          case measure => simp [intOf]; omega
      · obtain rfl : k = 2 := by omega
        go_wp2_with fail
        go_ret
        exact ⟨rfl, HB.out⟩
end Go.Proofs.YtcamncipkofgkaaDoor
