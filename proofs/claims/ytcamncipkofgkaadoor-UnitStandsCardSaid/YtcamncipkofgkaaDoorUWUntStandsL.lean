/- The walk of UnitStands. -/
import Derived.Test.YtcamncipkofgkaaDoorUM10
import Derived.Test.YtcamncipkofgkaaDoorUV1
import Derived.Test.YtcamncipkofgkaaDoorUW1
import Derived.Test.YtcamncipkofgkaaDoorUT1
namespace Go.Proofs.YtcamncipkofgkaaDoor
open Go.RowKit Go.Shelf Pln Unt
set_option maxRecDepth 100000 in
set_option maxHeartbeats 4000000 in
theorem unitStands_w (x y : List Pt) (hx : (x.length : Int) ≤ 9223372036854775807) (hy : (y.length : Int) ≤ 9223372036854775807) (how : Int) (hh : I64 how) (a0 a1 a2 a3 : Int)
    (ha : I64 a0 ∧ I64 a1 ∧ I64 a2 ∧ I64 a3) (dy : Int) (hdy : I64 dy) (vx1 vx2 : Value) (w : World) (h1 : PtsAt w vx1 x) (h2 : PtsAt w vx2 y) (hT : TabU w) :
    Calls Tryd.prog 8 #[vx1, vx2, .int .i64 how, .agg #[.int .i64 a0, .int .i64 a1, .int .i64 a2, .int .i64 a3], .int .i64 dy] w fun e w' => e = .returned (.bool true) ∧ Below w.heap.size w w' := by
  have HH := Lib.hid hh
  have HA := Lib.hid ha
  have HX := Lib.hid hx
  have HDY := Lib.hid hdy
  clear hdy
  have HY := Lib.hid hy
  have hB := alloc_below w (.cells #[.int .i64 a0, .int .i64 a1, .int .i64 a2, .int .i64 a3] 23)
  have HP := Lib.hid (heap_alloc_new w (.cells #[.int .i64 a0, .int .i64 a1, .int .i64 a2, .int .i64 a3] 23))
  have H1 := Lib.hid (h1.via hB)
  have H2 := Lib.hid (h2.via hB)
  have HT := Lib.hid (hT.via hB)
  have HB := Lib.hid hB
  clear hh ha hx hy h1 h2 hT hB
  go_enter Tryd.func8, Tryd.ntmps8
  go_wp2_with fail
  refine (sane8_w _ HT.out).mono ?_
  rintro e w1 ⟨rfl, hB⟩
  have HP1 := heap_below hB HP.out
  have p0 := cell_heap HP1 (i := 0) rfl
  have p1 := cell_heap HP1 (i := 1) rfl
  have p2 := cell_heap HP1 (i := 2) rfl
  have p3 := cell_heap HP1 (i := 3) rfl
  replace H1 := Lib.hid (H1.out.via hB)
  replace H2 := Lib.hid (H2.out.via hB)
  replace HT := Lib.hid (HT.out.via hB)
  replace HB := Lib.hid (belowStep HB.out hB)
  clear hB HP HP1
  go_wp2_with fail
  clear p0 p1 p2 p3
  refine (pair8_w x y HX.out HY.out how HH.out a0 a1 a2 a3 a0 a1 a2 a3 HA.out HA.out vx1 vx2 _ H1.out H2.out).mono ?_
  rintro e w2 ⟨u, t, r, s, rfl, vu, vt, hu, ht, hB⟩
  replace HT := Lib.hid (HT.out.via hB)
  replace HB := Lib.hid (belowStep HB.out hB)
  have HU := Lib.hid hu
  have VU := Lib.hid vu
  have HV := Lib.hid ht
  have VT := Lib.hid vt
  obtain ⟨ar, cr, rfl⟩ : ∃ a c, r = .slice a u.shape.length c := by obtain ⟨⟨a, c, h, _⟩, _⟩ := hu.at_; exact ⟨a, c, h⟩
  obtain ⟨at1, ct1, rfl⟩ : ∃ a c, s = .slice a t.shape.length c := by obtain ⟨⟨a, c, h, _⟩, _⟩ := ht.at_; exact ⟨a, c, h⟩
  clear hu ht vt vu hB H1 H2 HH HA HX HY
  unfold uv
  go_upto_region 5 with fail
  obtain ⟨v1, hv1⟩ : ∃ v : World, v = (w2.alloc (.cells #[.int .i64 u.id, .int .i64 u.kind, .int .i64 u.mat, .slice ar u.shape.length cr, .int .i64 u.back, .int .i64 u.front] 27)).alloc (.cells #[.int .i64 t.id, .int .i64 t.kind, .int .i64 t.mat, .slice at1 t.shape.length ct1, .int .i64 t.back, .int .i64 t.front] 27) := ⟨_, rfl⟩
  have hB1 : Below w2.heap.size w2 (w2.alloc (.cells #[.int .i64 u.id, .int .i64 u.kind, .int .i64 u.mat, .slice ar u.shape.length cr, .int .i64 u.back, .int .i64 u.front] 27)) := alloc_below _ _
  have hB2 : Below (w2.alloc (.cells #[.int .i64 u.id, .int .i64 u.kind, .int .i64 u.mat, .slice ar u.shape.length cr, .int .i64 u.back, .int .i64 u.front] 27)).heap.size (w2.alloc (.cells #[.int .i64 u.id, .int .i64 u.kind, .int .i64 u.mat, .slice ar u.shape.length cr, .int .i64 u.back, .int .i64 u.front] 27)) v1 := by rw [hv1]; exact alloc_below _ _
  have hs1 : (w2.alloc (.cells #[.int .i64 u.id, .int .i64 u.kind, .int .i64 u.mat, .slice ar u.shape.length cr, .int .i64 u.back, .int .i64 u.front] 27)).heap.size = w2.heap.size + 1 := by simp
  have HX1 : Hid (v1.heap[w2.heap.size]? = some (.cells #[.int .i64 u.id, .int .i64 u.kind, .int .i64 u.mat, .slice ar u.shape.length cr, .int .i64 u.back, .int .i64 u.front] 27 (0, 0))) := Lib.hid (heap_below hB2 (heap_alloc_new w2 (.cells #[.int .i64 u.id, .int .i64 u.kind, .int .i64 u.mat, .slice ar u.shape.length cr, .int .i64 u.back, .int .i64 u.front] 27)))
  have HX2 : Hid (v1.heap[w2.heap.size + 1]? = some (.cells #[.int .i64 t.id, .int .i64 t.kind, .int .i64 t.mat, .slice at1 t.shape.length ct1, .int .i64 t.back, .int .i64 t.front] 27 (0, 0))) := Lib.hid (by rw [← hs1, hv1]; exact heap_alloc_new _ _)
  have HZ : Hid (w2.heap.size + 2 ≤ v1.heap.size) := Lib.hid (by rw [hv1]; simp)
  have hB := belowStep hB1 hB2
  rw [← hv1]
  clear hB1 hB2 hs1 hv1
  replace HU := Lib.hid (HU.out.via hB)
  replace HV := Lib.hid (HV.out.via hB)
  replace HT := Lib.hid (HT.out.via hB)
  replace HB := Lib.hid (belowStep HB.out hB)
  clear hB
  obtain ⟨n, hn⟩ : ∃ n, n = u.shape.length := ⟨_, rfl⟩
  have HN := Lib.hid hn
  have hn1 : 3 ≤ n := by rw [hn]; exact VU.out.v.lo
  have hn2 : (n : Int) ≤ 100 := by have := VU.out.v.hi; omega
  clear hn
  have HX1' := HX1.out
  rw [← HN.out] at HX1'
  have z3 := cell_heap HX1' (i := 3) rfl
  clear HX1'
  go_wp2_with fail
  go_loopw [14, 15] (fun a c wr => ∃ (L : Int) (k : Nat), k ≤ n ∧ a = .int .i64 L ∧ c = .int .i64 k ∧ 0 ≤ L ∧ L ≤ 40 ∧ (∀ i, i < k → L ≤ (vx u.shape i).2) ∧ wr = v1) (fun _ c _ => n - (intOf c).toNat)
  case atStart => exact ⟨40, 0, by omega, rfl, rfl, by omega, by omega, fun i hi => by omega, rfl⟩
  case round =>
    obtain ⟨L, k, hk, rfl, rfl, l0, l1, hL, rfl⟩ := hrel
    by_cases hlt : k < n
    · have hlt' : (k : Int) < n := by omega
      obtain ⟨⟨a, c, he, _, _, hin⟩, _⟩ := HU.out.at_
      cases he
      obtain ⟨g, o, rfl, x0, x1⟩ := hin.get (k := k) (by rw [← HN.out]; exact hlt)
      have ho := VU.out.v.on k (by rw [← HN.out]; exact hlt)
      obtain ⟨_, _, o1, o2⟩ := ho
      obtain ⟨Y, hY⟩ : ∃ Y, Y = (vx u.shape k).2 := ⟨_, rfl⟩
      rw [← hY] at x1 o1 o2
      have HYY := Lib.hid hY
      have HL := Lib.hid hL
      clear hY hin x0 hL
      go_wp2_with fail
      refine ⟨⟨if Y < L then Y else L, k + 1, by omega, rfl, by go_num, by split <;> omega, by split <;> omega, fun i hi => ?_, trivial⟩, by simp [intOf]; omega⟩
      rcases Nat.lt_or_ge i k with h | h
      · have := HL.out i h; split <;> omega
      · obtain rfl : i = k := by omega
        rw [← HYY.out]; split <;> omega
    · obtain rfl : k = n := by omega
      have HMD := Lib.hid (mov_down VU.out l0 (fun i hi => hL i (by rw [HN.out]; exact hi)))
      have HVG := Lib.hid (mov_some VU.out HMD.out).2
      have hk0 : ¬ k < u.shape.length := by have := HN.out; omega
      have x0 := cell_heap HX1.out (i := 0) rfl
      have x1 := cell_heap HX1.out (i := 1) rfl
      have x2 := cell_heap HX1.out (i := 2) rfl
      have x3 := cell_heap HX1.out (i := 3) rfl
      have x4 := cell_heap HX1.out (i := 4) rfl
      have x5 := cell_heap HX1.out (i := 5) rfl
      clear z3 hL
      go_wp2_with fail
      clear x0 x1 x2 x3 x4 x5 hk0
      have hc := moveU_some VU.out HMD.out ⟨by omega, by omega⟩ ⟨by omega, by omega⟩ _ _ HU.out
      refine hc.mono ?_
      clear hc
      rintro e w3 ⟨ra, ka, rfl, hm, hB⟩
      replace HU := Lib.hid (HU.out.via hB)
      replace HV := Lib.hid (HV.out.via hB)
      replace HT := Lib.hid (HT.out.via hB)
      replace HX1 := Lib.hid (heap_below hB HX1.out)
      replace HX2 := Lib.hid (heap_below hB HX2.out)
      replace HB := Lib.hid (belowStep HB.out hB)
      clear hB
      have HG := Lib.hid hm
      clear hm
      have hB := alloc_below w3 (.cells #[.int .i64 u.id, .int .i64 u.kind, .int .i64 u.mat, .slice ra u.shape.length ka, .int .i64 u.back, .int .i64 u.front] 27)
      have HX3 := Lib.hid (heap_alloc_new w3 (.cells #[.int .i64 u.id, .int .i64 u.kind, .int .i64 u.mat, .slice ra u.shape.length ka, .int .i64 u.back, .int .i64 u.front] 27))
      replace HU := Lib.hid (HU.out.via hB)
      replace HV := Lib.hid (HV.out.via hB)
      replace HG := Lib.hid (HG.out.via hB)
      replace HT := Lib.hid (HT.out.via hB)
      replace HX1 := Lib.hid (heap_below hB HX1.out)
      replace HX2 := Lib.hid (heap_below hB HX2.out)
      replace HB := Lib.hid (belowStep HB.out hB)
      clear hB
      have HLO := Lib.hid (low_two HVG.out.v)
      have HNG : Hid (k = (mvU u 0 (-L)).shape.length) := Lib.hid (HN.out.trans (shf_len _ _ _).symm)
      obtain ⟨l', hl'⟩ : ∃ l', l' = (mvU u 0 (-L)).shape := ⟨_, rfl⟩
      have HL' := Lib.hid hl'
      rw [← hl'] at HLO HNG
      clear hl'
      obtain ⟨v3, hv3⟩ : ∃ v : World, v = (w3.alloc (.cells #[.int .i64 u.id, .int .i64 u.kind, .int .i64 u.mat, .slice ra u.shape.length ka, .int .i64 u.back, .int .i64 u.front] 27)) := ⟨_, rfl⟩
      rw [← hv3] at HU
      rw [← hv3] at HV
      rw [← hv3] at HG
      rw [← hv3] at HT
      rw [← hv3] at HX1
      rw [← hv3] at HX2
      rw [← hv3] at HX3
      rw [← hv3] at HB
      have HX3' := HX3.out
      rw [← HN.out] at HX3'
      have z3 := cell_heap HX3' (i := 3) rfl
      clear HX3'
      go_wp2_with fail
      rw [← hv3]
      clear hv3
      go_loopw [18, 19] (fun a c wr => ∃ j : Nat, j ≤ k ∧ a = .int .i64 (cnt zeroY l' j) ∧ c = .int .i64 j ∧ wr = v3) (fun _ c _ => k - (intOf c).toNat)
      case atStart => exact ⟨0, by omega, rfl, rfl, rfl⟩
      case round =>
        obtain ⟨j, hj, rfl, rfl, rfl⟩ := hrel
        by_cases hlt : j < k
        · have hlt' : (j : Int) < k := by omega
          have hat := HG.out.at_
          rw [← HL'.out] at hat
          obtain ⟨⟨a, c, he, _, _, hin⟩, _⟩ := hat
          obtain ⟨h1, _, h3⟩ : ra = a ∧ u.shape.length = l'.length ∧ ka = c := by simpa using he
          subst h1
          subst h3
          obtain ⟨g, o, rfl, x0, x1⟩ := hin.get (k := j) (by rw [← HNG.out]; exact hlt)
          have HC := Lib.hid (cnt_succ zeroY (l := l') (k := j) (by rw [← HNG.out]; exact hlt))
          have hcl := cnt_le zeroY l' j
          obtain ⟨Y, hY⟩ : ∃ Y, Y = (vx l' j).2 := ⟨_, rfl⟩
          rw [← hY] at x1
          have HZY : Hid (zeroY (vx l' j) = decide (Y = 0)) := Lib.hid (by rw [hY]; rfl)
          rw [HZY.out] at HC
          obtain ⟨c0, hc0⟩ : ∃ c, c = cnt zeroY l' j := ⟨_, rfl⟩
          rw [← hc0] at HC hcl ⊢
          clear hY hin x0 hc0
          by_cases hy : Y = 0
          · subst hy
            go_wp2_with fail
            exact ⟨⟨j + 1, by omega, by rw [HC.out]; rfl, by go_num, trivial⟩, by simp [intOf]; omega⟩
          · have hy2 : decide (Y = 0) = false := decide_eq_false hy
            go_wp2_with fail
            exact ⟨⟨j + 1, by omega, by rw [HC.out, hy2]; rfl, by go_num, trivial⟩, by simp [intOf]; omega⟩
        · obtain rfl : j = k := by omega
          rcases Nat.lt_or_ge (lowP l').length 2 with hless | hge
          · have HSD := Lib.hid (std_less (u := mvU u 0 (-L)) (by rw [← HL'.out]; exact hless))
            have HCN : Hid (cnt zeroY l' j = (lowP l').length) := Lib.hid (by rw [HNG.out]; exact cnt_all _ _)
            rw [HCN.out]
            generalize (lowP l').length = N at *
            have hN2 : ¬ ((N : Int) = 2) := by omega
            have hj0 : ¬ j < u.shape.length := by have := HN.out; omega
            clear z3
            have x0 := cell_heap HX3.out (i := 0) rfl
            have x1 := cell_heap HX3.out (i := 1) rfl
            have x2 := cell_heap HX3.out (i := 2) rfl
            have x3 := cell_heap HX3.out (i := 3) rfl
            have x4 := cell_heap HX3.out (i := 4) rfl
            have x5 := cell_heap HX3.out (i := 5) rfl
            go_wp2_with fail
            clear x0 x1 x2 x3 x4 x5
            clear hj0
            refine (stands_none HG.out HSD.out).mono ?_
            rintro e w4 ⟨rfl, hB⟩
            replace HU := Lib.hid (HU.out.via hB)
            replace HG := Lib.hid (HG.out.via hB)
            replace HT := Lib.hid (HT.out.via hB)
            replace HX1 := Lib.hid (heap_below hB HX1.out)
            replace HX3 := Lib.hid (heap_below hB HX3.out)
            replace HB := Lib.hid (belowStep HB.out hB)
            clear hB
            have hB := alloc_below w4 (.cells #[.int .i64 0, .int .i64 0, .int .i64 0, .int .i64 0, .int .i64 0, .int .i64 0, .int .i64 0, .int .i64 0] 42)
            have HX4 := Lib.hid (heap_alloc_new w4 (.cells #[.int .i64 0, .int .i64 0, .int .i64 0, .int .i64 0, .int .i64 0, .int .i64 0, .int .i64 0, .int .i64 0] 42))
            replace HU := Lib.hid (HU.out.via hB)
            replace HG := Lib.hid (HG.out.via hB)
            replace HT := Lib.hid (HT.out.via hB)
            replace HX1 := Lib.hid (heap_below hB HX1.out)
            replace HX3 := Lib.hid (heap_below hB HX3.out)
            replace HB := Lib.hid (belowStep HB.out hB)
            clear hB
            obtain ⟨v4, hv4⟩ : ∃ v : World, v = (w4.alloc (.cells #[.int .i64 0, .int .i64 0, .int .i64 0, .int .i64 0, .int .i64 0, .int .i64 0, .int .i64 0, .int .i64 0] 42)) := ⟨_, rfl⟩
            go_upto_region 22 with fail
            rw [← hv4] at HU
            rw [← hv4] at HG
            rw [← hv4] at HT
            rw [← hv4] at HX1
            rw [← hv4] at HX3
            rw [← hv4] at HX4
            rw [← hv4] at HB
            rw [← hv4]
            clear hv4
            have hpk := pkN_in (c := dy) (n := 8) (by omega)
            obtain ⟨pk, hpp⟩ : ∃ p, p = pkN dy 8 := ⟨_, rfl⟩
            have HPK := Lib.hid hpp
            rw [← hpp] at hpk
            clear hpp
            obtain ⟨hp1, hp2⟩ := hpk
            obtain ⟨K, hK⟩ : ∃ K, K = 1 + pk := ⟨_, rfl⟩
            have hK1 : 1 ≤ K := by omega
            have hK2 : K ≤ 8 := by omega
            have HK := Lib.hid hK
            have hwr : IntKind.i64.wrap (1 + pk) = K := by rw [hK]; exact IntWalk.i64_in _ (by omega)
            clear hK
            go_cut [22, 23] (fun s22 s23 wx => ∃ (b : Nat) (i kd m : Int) (a : Option Addr) (n k : Nat) (bk f er : Int), s22 = .pointer (some ⟨b, 0, none⟩) ∧ s23 = .int .i64 er ∧ wx.heap[b]? = some (.cells #[.int .i64 i, .int .i64 kd, .int .i64 m, .slice a n k, .int .i64 bk, .int .i64 f] 27 (0, 0)) ∧ MvG u (mvU u 0 (-L)) K wx i kd m a n k bk f er ∧ Below v4.heap.size v4 wx)
            case first =>
              refine (wpIn_wide (n := 5)).1 ?_
              refine wpIn_region_T (fun w' => Below v4.drew.heap.size v4.drew w') 10 (by kernel_rfl) ?_
              have HD : Hid (Below v4.heap.size v4 v4.drew) := Lib.hid ((Below.refl _ _).drew)
              obtain ⟨wd, hwd⟩ : ∃ v : World, v = v4.drew := ⟨_, rfl⟩
              rw [← hwd] at HD ⊢
              clear hwd
              have HG := Lib.hid (HG.out.via HD.out)
              have HX3 := Lib.hid (heap_below HD.out HX3.out)
              have x0 := cell_heap HX3.out (i := 0) rfl
              have x1 := cell_heap HX3.out (i := 1) rfl
              have x2 := cell_heap HX3.out (i := 2) rfl
              have x3 := cell_heap HX3.out (i := 3) rfl
              have x4 := cell_heap HX3.out (i := 4) rfl
              have x5 := cell_heap HX3.out (i := 5) rfl
              refine wpT_tk 0 90 (v := ?_) (Below.refl _ _) rfl rfl (by rfl) (hy := fun w hw => ?_) (h := ?_)
              rotate_left
              · have x0 := keptBelow hw x0; have x1 := keptBelow hw x1; have x2 := keptBelow hw x2; have x3 := keptBelow hw x3; have x4 := keptBelow hw x4; have x5 := keptBelow hw x5; go_simp; with_reducible rfl
              try simp only [Act.put, List.setIfInBounds_toArray, List.set_cons_zero, List.set_cons_succ]
              refine wpT_tk 1 91 (v := ?_) (Below.refl _ _) rfl rfl (by rfl) (hy := fun w hw => ?_) (h := ?_)
              rotate_left
              · go_simp; with_reducible rfl
              try simp only [Act.put, List.setIfInBounds_toArray, List.set_cons_zero, List.set_cons_succ]
              refine wpT_call 2 92 (v := .int .i64 pk) (Below.refl _ _) rfl rfl (by rfl) (f := 29) (args := #[.int .i64 dy, .int .i64 8]) (hrun := fun w hw => ?_) (hdp := by decide) (hc := fun w hw => (callsIn_wide.2 (pickL8_w dy 8 HDY.out (by omega) (by omega) w)).mono (fun e w' h => ⟨by rw [HPK.out]; exact h.1, h.2.symm⟩)) (h := ?_)
              · go_simp
              try simp only [Act.put, List.setIfInBounds_toArray, List.set_cons_zero, List.set_cons_succ]
              refine wpT_tk 3 93 (v := ?_) (Below.refl _ _) rfl rfl (by rfl) (hy := fun w hw => ?_) (h := ?_)
              rotate_left
              · go_simp; with_reducible rfl
              try simp only [Act.put, List.setIfInBounds_toArray, List.set_cons_zero, List.set_cons_succ]
              have HGC := Lib.hid (fun (w5 : World) (hB : Below wd.heap.size wd w5) => moveG HVG.out (K := K) ⟨by omega, by omega⟩ _ w5 (HG.out.via hB))
              have HL3 : Hid (3 ≤ (mvU (mvU u 0 (-L)) 0 K).shape.length) := Lib.hid (by rw [show (mvU (mvU u 0 (-L)) 0 K).shape.length = (mvU u 0 (-L)).shape.length from shf_len _ _ _]; exact HVG.out.v.lo)
              clear x0 x1 x2 x3 x4 x5 hwr
              refine wpT_two 4 8 rfl rfl (by rfl) (by rfl) (by kernel_rfl) ?_ ?_
              · go_simp
                refine ⟨trivial, ?_⟩
                refine (callsIn_wide.2 (HGC.out _ (Below.refl _ _))).mono ?_
                rintro e w6 ⟨i, kd, m, a, n, kk, bk, f, er, rfl, hmv, hB⟩
                refine ⟨hB, ?_⟩
                refine wpT_tk 5 89 (v := ?_) hB rfl rfl (by rfl) (hy := fun w hw => ?_) (h := ?_)
                rotate_left
                · go_simp; with_reducible rfl
                try simp only [Act.put, List.setIfInBounds_toArray, List.set_cons_zero, List.set_cons_succ]
                refine wpT_tk 6 95 (v := ?_) hB rfl rfl (by rfl) (hy := fun w hw => ?_) (h := ?_)
                rotate_left
                · go_simp; with_reducible rfl
                try simp only [Act.put, List.setIfInBounds_toArray, List.set_cons_zero, List.set_cons_succ]
                refine wpT_tk 7 96 (v := ?_) hB rfl rfl (by rfl) (hy := fun w hw => ?_) (h := ?_)
                rotate_left
                · go_simp; with_reducible rfl
                try simp only [Act.put, List.setIfInBounds_toArray, List.set_cons_zero, List.set_cons_succ]
                have HMV := Lib.hid hmv
                have HB6 := Lib.hid hB
                clear hmv hB
                refine wpT_oneW 8 rfl (by rfl) (by kernel_rfl) ?_
                go_simp
                obtain ⟨w7, hw7⟩ : ∃ v : World, v = w6.alloc (.cells #[.int .i64 0, .int .i64 0, .int .i64 0, .slice none 0 0, .int .i64 0, .int .i64 0] 27) := ⟨_, rfl⟩
                have hA : Below w6.heap.size w6 w7 := by rw [hw7]; exact alloc_below _ _
                have HR : Hid (w7.heap[w6.heap.size]? = some (.cells #[.int .i64 0, .int .i64 0, .int .i64 0, .slice none 0 0, .int .i64 0, .int .i64 0] 27 (0, 0))) := Lib.hid (by rw [hw7]; exact heap_alloc_new _ _)
                rw [← hw7]
                clear hw7
                have HMV := Lib.hid (HMV.out.via hA)
                have HB7 := Lib.hid (belowStep HB6.out hA)
                have HLE : Hid (wd.heap.size ≤ w6.heap.size) := Lib.hid HB6.out.size
                clear hA
                refine ⟨HB7.out, ?_⟩
                have z0 := cell_heap HR.out (i := 0) rfl
                have z1 := cell_heap HR.out (i := 1) rfl
                have z2 := cell_heap HR.out (i := 2) rfl
                have z3 := cell_heap HR.out (i := 3) rfl
                have z4 := cell_heap HR.out (i := 4) rfl
                have z5 := cell_heap HR.out (i := 5) rfl
                have f0 := frozen_of_row _ _ 0 _ _ HR.out
                have f1 := frozen_of_row _ _ 1 _ _ HR.out
                have f2 := frozen_of_row _ _ 2 _ _ HR.out
                have f3 := frozen_of_row _ _ 3 _ _ HR.out
                have f4 := frozen_of_row _ _ 4 _ _ HR.out
                have f5 := frozen_of_row _ _ 5 _ _ HR.out
                refine wpT_oneW 9 rfl (by rfl) (by kernel_rfl) ?_
                go_simp
                refine ⟨below_six' HB7.out HLE.out, ?_⟩
                refine wpT_oneW 10 rfl (by rfl) (by kernel_rfl) ?_
                go_simp
                try refine ⟨(fun h => by cases h), ?_⟩
                refine wpT_done (by kernel_rfl) ?_ _
                go_wp2_with fail
                go_meet
                case rel =>
                  exact ⟨w6.heap.size, i, kd, m, a, n, kk, bk, f, er, rfl, rfl, sets_row HR.out, HMV.out.sets HL3.out HR.out, belowStep HD.out (below_six' HB7.out HLE.out)⟩
              · go_simp
                obtain ⟨w6, hw6⟩ : ∃ v : World, v = wd.alloc (.cells #[.int .i64 0, .int .i64 0, .int .i64 0, .slice none 0 0, .int .i64 0, .int .i64 0] 27) := ⟨_, rfl⟩
                have hA : Below wd.heap.size wd w6 := by rw [hw6]; exact alloc_below _ _
                have HR : Hid (w6.heap[wd.heap.size]? = some (.cells #[.int .i64 0, .int .i64 0, .int .i64 0, .slice none 0 0, .int .i64 0, .int .i64 0] 27 (0, 0))) := Lib.hid (by rw [hw6]; exact heap_alloc_new _ _)
                rw [← hw6]
                clear hw6
                refine ⟨hA, ?_⟩
                refine wpT_oneW 4 rfl (by rfl) (by kernel_rfl) ?_
                go_simp
                refine ⟨trivial, ?_⟩
                refine (callsIn_wide.2 (HGC.out _ hA)).mono ?_
                rintro e w7 ⟨i, kd, m, a, n, kk, bk, f, er, rfl, hmv, hB⟩
                replace HR := Lib.hid (heap_below hB HR.out)
                have hB7 := belowStep hA hB
                have HB7 := Lib.hid hB7
                have HMV := Lib.hid hmv
                have HLE : Hid (wd.heap.size ≤ wd.heap.size) := Lib.hid (Nat.le_refl _)
                clear hA hB hmv
                refine ⟨hB7, ?_⟩
                refine wpT_tk 5 89 (v := ?_) hB7 rfl rfl (by rfl) (hy := fun w hw => ?_) (h := ?_)
                rotate_left
                · go_simp; with_reducible rfl
                try simp only [Act.put, List.setIfInBounds_toArray, List.set_cons_zero, List.set_cons_succ]
                refine wpT_tk 6 95 (v := ?_) hB7 rfl rfl (by rfl) (hy := fun w hw => ?_) (h := ?_)
                rotate_left
                · go_simp; with_reducible rfl
                try simp only [Act.put, List.setIfInBounds_toArray, List.set_cons_zero, List.set_cons_succ]
                refine wpT_tk 7 96 (v := ?_) hB7 rfl rfl (by rfl) (hy := fun w hw => ?_) (h := ?_)
                rotate_left
                · go_simp; with_reducible rfl
                try simp only [Act.put, List.setIfInBounds_toArray, List.set_cons_zero, List.set_cons_succ]
                clear hB7
                have z0 := cell_heap HR.out (i := 0) rfl
                have z1 := cell_heap HR.out (i := 1) rfl
                have z2 := cell_heap HR.out (i := 2) rfl
                have z3 := cell_heap HR.out (i := 3) rfl
                have z4 := cell_heap HR.out (i := 4) rfl
                have z5 := cell_heap HR.out (i := 5) rfl
                have f0 := frozen_of_row _ _ 0 _ _ HR.out
                have f1 := frozen_of_row _ _ 1 _ _ HR.out
                have f2 := frozen_of_row _ _ 2 _ _ HR.out
                have f3 := frozen_of_row _ _ 3 _ _ HR.out
                have f4 := frozen_of_row _ _ 4 _ _ HR.out
                have f5 := frozen_of_row _ _ 5 _ _ HR.out
                refine wpT_oneW 9 rfl (by rfl) (by kernel_rfl) ?_
                go_simp
                refine ⟨below_six' HB7.out HLE.out, ?_⟩
                refine wpT_oneW 10 rfl (by rfl) (by kernel_rfl) ?_
                go_simp
                try refine ⟨(fun h => by cases h), ?_⟩
                refine wpT_done (by kernel_rfl) ?_ _
                go_wp2_with fail
                go_meet
                case rel =>
                  exact ⟨wd.heap.size, i, kd, m, a, n, kk, bk, f, er, rfl, rfl, sets_row HR.out, HMV.out.sets HL3.out HR.out, belowStep HD.out (below_six' HB7.out HLE.out)⟩
            case rest =>
              obtain ⟨b, i, kd, m, a, n, kk, bk, f, er, rfl, rfl, hr, hmv, hB⟩ := hcut
              clear hwr
              replace HU := Lib.hid (HU.out.via hB)
              replace HG := Lib.hid (HG.out.via hB)
              replace HT := Lib.hid (HT.out.via hB)
              replace HX1 := Lib.hid (heap_below hB HX1.out)
              replace HX3 := Lib.hid (heap_below hB HX3.out)
              replace HX4 := Lib.hid (heap_below hB HX4.out)
              replace HB := Lib.hid (belowStep HB.out hB)
              clear hB
              have HR := Lib.hid hr
              have HMV := Lib.hid hmv
              clear hr hmv
              have z0 := cell_heap HR.out (i := 0) rfl
              have z1 := cell_heap HR.out (i := 1) rfl
              have z2 := cell_heap HR.out (i := 2) rfl
              have z3 := cell_heap HR.out (i := 3) rfl
              have z4 := cell_heap HR.out (i := 4) rfl
              have z5 := cell_heap HR.out (i := 5) rfl
              go_wp2_with fail
              clear z0 z1 z2 z3 z4 z5
              refine (stands_moved HVG.out hK1 HMV.out rfl rfl rfl rfl rfl).mono ?_
              rintro e w8 ⟨rfl, hB⟩
              replace HU := Lib.hid (HU.out.via hB)
              replace HG := Lib.hid (HG.out.via hB)
              replace HT := Lib.hid (HT.out.via hB)
              replace HMV := Lib.hid (HMV.out.via hB)
              replace HX1 := Lib.hid (heap_below hB HX1.out)
              replace HX3 := Lib.hid (heap_below hB HX3.out)
              replace HX4 := Lib.hid (heap_below hB HX4.out)
              replace HR := Lib.hid (heap_below hB HR.out)
              replace HB := Lib.hid (belowStep HB.out hB)
              clear hB
              have hB := alloc_below w8 (.cells #[.int .i64 0, .int .i64 0, .int .i64 0, .int .i64 0, .int .i64 0, .int .i64 0, .int .i64 0, .int .i64 0] 42)
              replace HU := Lib.hid (HU.out.via hB)
              replace HG := Lib.hid (HG.out.via hB)
              replace HT := Lib.hid (HT.out.via hB)
              replace HMV := Lib.hid (HMV.out.via hB)
              replace HX1 := Lib.hid (heap_below hB HX1.out)
              replace HX3 := Lib.hid (heap_below hB HX3.out)
              replace HX4 := Lib.hid (heap_below hB HX4.out)
              replace HR := Lib.hid (heap_below hB HR.out)
              replace HB := Lib.hid (belowStep HB.out hB)
              clear hB
              have q0 := cell_heap HX4.out (i := 0) rfl
              have q1 := cell_heap HX4.out (i := 1) rfl
              have q2 := cell_heap HX4.out (i := 2) rfl
              have q3 := cell_heap HX4.out (i := 3) rfl
              have q4 := cell_heap HX4.out (i := 4) rfl
              have q5 := cell_heap HX4.out (i := 5) rfl
              have q6 := cell_heap HX4.out (i := 6) rfl
              have q7 := cell_heap HX4.out (i := 7) rfl
              by_cases her : er = 0
              · subst her
                go_wp2_with fail
                go_ret
                exact ⟨rfl, HB.out⟩
              · skip
                go_wp2_with fail
                go_ret
                exact ⟨rfl, HB.out⟩
          · have htwo : (lowP l').length = 2 := by have := HLO.out; omega
            obtain ⟨⟨P1, P2⟩, ⟨Q1, Q2⟩, hsd, hef⟩ := std_two HVG.out (by rw [← HL'.out]; exact htwo)
            have HSD := Lib.hid hsd
            have HEF := Lib.hid hef
            rw [← HL'.out] at HEF
            clear hsd hef
            have HCN : Hid (cnt zeroY l' j = (lowP l').length) := Lib.hid (by rw [HNG.out]; exact cnt_all _ _)
            rw [HCN.out]
            rw [htwo]
            clear htwo HLO
            have hj0 : ¬ j < u.shape.length := by have := HN.out; omega
            clear z3
            have x0 := cell_heap HX3.out (i := 0) rfl
            have x1 := cell_heap HX3.out (i := 1) rfl
            have x2 := cell_heap HX3.out (i := 2) rfl
            have x3 := cell_heap HX3.out (i := 3) rfl
            have x4 := cell_heap HX3.out (i := 4) rfl
            have x5 := cell_heap HX3.out (i := 5) rfl
            go_wp2_with fail
            clear x0 x1 x2 x3 x4 x5
            clear hj0
            refine (stands_g HG.out HSD.out).mono ?_
            rintro e w4 ⟨rfl, hB⟩
            replace HU := Lib.hid (HU.out.via hB)
            replace HG := Lib.hid (HG.out.via hB)
            replace HT := Lib.hid (HT.out.via hB)
            replace HX1 := Lib.hid (heap_below hB HX1.out)
            replace HX3 := Lib.hid (heap_below hB HX3.out)
            replace HB := Lib.hid (belowStep HB.out hB)
            clear hB
            have hB := alloc_below w4 (.cells #[.int .i64 u.id, .int .i64 (-1), .int .i64 P1, .int .i64 P2, .int .i64 Q1, .int .i64 Q2, .int .i64 u.back, .int .i64 u.front] 42)
            have HX4 := Lib.hid (heap_alloc_new w4 (.cells #[.int .i64 u.id, .int .i64 (-1), .int .i64 P1, .int .i64 P2, .int .i64 Q1, .int .i64 Q2, .int .i64 u.back, .int .i64 u.front] 42))
            replace HU := Lib.hid (HU.out.via hB)
            replace HG := Lib.hid (HG.out.via hB)
            replace HT := Lib.hid (HT.out.via hB)
            replace HX1 := Lib.hid (heap_below hB HX1.out)
            replace HX3 := Lib.hid (heap_below hB HX3.out)
            replace HB := Lib.hid (belowStep HB.out hB)
            clear hB
            obtain ⟨v4, hv4⟩ : ∃ v : World, v = (w4.alloc (.cells #[.int .i64 u.id, .int .i64 (-1), .int .i64 P1, .int .i64 P2, .int .i64 Q1, .int .i64 Q2, .int .i64 u.back, .int .i64 u.front] 42)) := ⟨_, rfl⟩
            go_upto_region 22 with fail
            rw [← hv4] at HU
            rw [← hv4] at HG
            rw [← hv4] at HT
            rw [← hv4] at HX1
            rw [← hv4] at HX3
            rw [← hv4] at HX4
            rw [← hv4] at HB
            rw [← hv4]
            clear hv4
            have hpk := pkN_in (c := dy) (n := 8) (by omega)
            obtain ⟨pk, hpp⟩ : ∃ p, p = pkN dy 8 := ⟨_, rfl⟩
            have HPK := Lib.hid hpp
            rw [← hpp] at hpk
            clear hpp
            obtain ⟨hp1, hp2⟩ := hpk
            obtain ⟨K, hK⟩ : ∃ K, K = 1 + pk := ⟨_, rfl⟩
            have hK1 : 1 ≤ K := by omega
            have hK2 : K ≤ 8 := by omega
            have HK := Lib.hid hK
            have hwr : IntKind.i64.wrap (1 + pk) = K := by rw [hK]; exact IntWalk.i64_in _ (by omega)
            clear hK
            go_cut [22, 23] (fun s22 s23 wx => ∃ (b : Nat) (i kd m : Int) (a : Option Addr) (n k : Nat) (bk f er : Int), s22 = .pointer (some ⟨b, 0, none⟩) ∧ s23 = .int .i64 er ∧ wx.heap[b]? = some (.cells #[.int .i64 i, .int .i64 kd, .int .i64 m, .slice a n k, .int .i64 bk, .int .i64 f] 27 (0, 0)) ∧ MvG u (mvU u 0 (-L)) K wx i kd m a n k bk f er ∧ Below v4.heap.size v4 wx)
            case first =>
              refine (wpIn_wide (n := 5)).1 ?_
              refine wpIn_region_T (fun w' => Below v4.drew.heap.size v4.drew w') 10 (by kernel_rfl) ?_
              have HD : Hid (Below v4.heap.size v4 v4.drew) := Lib.hid ((Below.refl _ _).drew)
              obtain ⟨wd, hwd⟩ : ∃ v : World, v = v4.drew := ⟨_, rfl⟩
              rw [← hwd] at HD ⊢
              clear hwd
              have HG := Lib.hid (HG.out.via HD.out)
              have HX3 := Lib.hid (heap_below HD.out HX3.out)
              have x0 := cell_heap HX3.out (i := 0) rfl
              have x1 := cell_heap HX3.out (i := 1) rfl
              have x2 := cell_heap HX3.out (i := 2) rfl
              have x3 := cell_heap HX3.out (i := 3) rfl
              have x4 := cell_heap HX3.out (i := 4) rfl
              have x5 := cell_heap HX3.out (i := 5) rfl
              refine wpT_tk 0 90 (v := ?_) (Below.refl _ _) rfl rfl (by rfl) (hy := fun w hw => ?_) (h := ?_)
              rotate_left
              · have x0 := keptBelow hw x0; have x1 := keptBelow hw x1; have x2 := keptBelow hw x2; have x3 := keptBelow hw x3; have x4 := keptBelow hw x4; have x5 := keptBelow hw x5; go_simp; with_reducible rfl
              try simp only [Act.put, List.setIfInBounds_toArray, List.set_cons_zero, List.set_cons_succ]
              refine wpT_tk 1 91 (v := ?_) (Below.refl _ _) rfl rfl (by rfl) (hy := fun w hw => ?_) (h := ?_)
              rotate_left
              · go_simp; with_reducible rfl
              try simp only [Act.put, List.setIfInBounds_toArray, List.set_cons_zero, List.set_cons_succ]
              refine wpT_call 2 92 (v := .int .i64 pk) (Below.refl _ _) rfl rfl (by rfl) (f := 29) (args := #[.int .i64 dy, .int .i64 8]) (hrun := fun w hw => ?_) (hdp := by decide) (hc := fun w hw => (callsIn_wide.2 (pickL8_w dy 8 HDY.out (by omega) (by omega) w)).mono (fun e w' h => ⟨by rw [HPK.out]; exact h.1, h.2.symm⟩)) (h := ?_)
              · go_simp
              try simp only [Act.put, List.setIfInBounds_toArray, List.set_cons_zero, List.set_cons_succ]
              refine wpT_tk 3 93 (v := ?_) (Below.refl _ _) rfl rfl (by rfl) (hy := fun w hw => ?_) (h := ?_)
              rotate_left
              · go_simp; with_reducible rfl
              try simp only [Act.put, List.setIfInBounds_toArray, List.set_cons_zero, List.set_cons_succ]
              have HGC := Lib.hid (fun (w5 : World) (hB : Below wd.heap.size wd w5) => moveG HVG.out (K := K) ⟨by omega, by omega⟩ _ w5 (HG.out.via hB))
              have HL3 : Hid (3 ≤ (mvU (mvU u 0 (-L)) 0 K).shape.length) := Lib.hid (by rw [show (mvU (mvU u 0 (-L)) 0 K).shape.length = (mvU u 0 (-L)).shape.length from shf_len _ _ _]; exact HVG.out.v.lo)
              clear x0 x1 x2 x3 x4 x5 hwr
              refine wpT_two 4 8 rfl rfl (by rfl) (by rfl) (by kernel_rfl) ?_ ?_
              · go_simp
                refine ⟨trivial, ?_⟩
                refine (callsIn_wide.2 (HGC.out _ (Below.refl _ _))).mono ?_
                rintro e w6 ⟨i, kd, m, a, n, kk, bk, f, er, rfl, hmv, hB⟩
                refine ⟨hB, ?_⟩
                refine wpT_tk 5 89 (v := ?_) hB rfl rfl (by rfl) (hy := fun w hw => ?_) (h := ?_)
                rotate_left
                · go_simp; with_reducible rfl
                try simp only [Act.put, List.setIfInBounds_toArray, List.set_cons_zero, List.set_cons_succ]
                refine wpT_tk 6 95 (v := ?_) hB rfl rfl (by rfl) (hy := fun w hw => ?_) (h := ?_)
                rotate_left
                · go_simp; with_reducible rfl
                try simp only [Act.put, List.setIfInBounds_toArray, List.set_cons_zero, List.set_cons_succ]
                refine wpT_tk 7 96 (v := ?_) hB rfl rfl (by rfl) (hy := fun w hw => ?_) (h := ?_)
                rotate_left
                · go_simp; with_reducible rfl
                try simp only [Act.put, List.setIfInBounds_toArray, List.set_cons_zero, List.set_cons_succ]
                have HMV := Lib.hid hmv
                have HB6 := Lib.hid hB
                clear hmv hB
                refine wpT_oneW 8 rfl (by rfl) (by kernel_rfl) ?_
                go_simp
                obtain ⟨w7, hw7⟩ : ∃ v : World, v = w6.alloc (.cells #[.int .i64 0, .int .i64 0, .int .i64 0, .slice none 0 0, .int .i64 0, .int .i64 0] 27) := ⟨_, rfl⟩
                have hA : Below w6.heap.size w6 w7 := by rw [hw7]; exact alloc_below _ _
                have HR : Hid (w7.heap[w6.heap.size]? = some (.cells #[.int .i64 0, .int .i64 0, .int .i64 0, .slice none 0 0, .int .i64 0, .int .i64 0] 27 (0, 0))) := Lib.hid (by rw [hw7]; exact heap_alloc_new _ _)
                rw [← hw7]
                clear hw7
                have HMV := Lib.hid (HMV.out.via hA)
                have HB7 := Lib.hid (belowStep HB6.out hA)
                have HLE : Hid (wd.heap.size ≤ w6.heap.size) := Lib.hid HB6.out.size
                clear hA
                refine ⟨HB7.out, ?_⟩
                have z0 := cell_heap HR.out (i := 0) rfl
                have z1 := cell_heap HR.out (i := 1) rfl
                have z2 := cell_heap HR.out (i := 2) rfl
                have z3 := cell_heap HR.out (i := 3) rfl
                have z4 := cell_heap HR.out (i := 4) rfl
                have z5 := cell_heap HR.out (i := 5) rfl
                have f0 := frozen_of_row _ _ 0 _ _ HR.out
                have f1 := frozen_of_row _ _ 1 _ _ HR.out
                have f2 := frozen_of_row _ _ 2 _ _ HR.out
                have f3 := frozen_of_row _ _ 3 _ _ HR.out
                have f4 := frozen_of_row _ _ 4 _ _ HR.out
                have f5 := frozen_of_row _ _ 5 _ _ HR.out
                refine wpT_oneW 9 rfl (by rfl) (by kernel_rfl) ?_
                go_simp
                refine ⟨below_six' HB7.out HLE.out, ?_⟩
                refine wpT_oneW 10 rfl (by rfl) (by kernel_rfl) ?_
                go_simp
                try refine ⟨(fun h => by cases h), ?_⟩
                refine wpT_done (by kernel_rfl) ?_ _
                go_wp2_with fail
                go_meet
                case rel =>
                  exact ⟨w6.heap.size, i, kd, m, a, n, kk, bk, f, er, rfl, rfl, sets_row HR.out, HMV.out.sets HL3.out HR.out, belowStep HD.out (below_six' HB7.out HLE.out)⟩
              · go_simp
                obtain ⟨w6, hw6⟩ : ∃ v : World, v = wd.alloc (.cells #[.int .i64 0, .int .i64 0, .int .i64 0, .slice none 0 0, .int .i64 0, .int .i64 0] 27) := ⟨_, rfl⟩
                have hA : Below wd.heap.size wd w6 := by rw [hw6]; exact alloc_below _ _
                have HR : Hid (w6.heap[wd.heap.size]? = some (.cells #[.int .i64 0, .int .i64 0, .int .i64 0, .slice none 0 0, .int .i64 0, .int .i64 0] 27 (0, 0))) := Lib.hid (by rw [hw6]; exact heap_alloc_new _ _)
                rw [← hw6]
                clear hw6
                refine ⟨hA, ?_⟩
                refine wpT_oneW 4 rfl (by rfl) (by kernel_rfl) ?_
                go_simp
                refine ⟨trivial, ?_⟩
                refine (callsIn_wide.2 (HGC.out _ hA)).mono ?_
                rintro e w7 ⟨i, kd, m, a, n, kk, bk, f, er, rfl, hmv, hB⟩
                replace HR := Lib.hid (heap_below hB HR.out)
                have hB7 := belowStep hA hB
                have HB7 := Lib.hid hB7
                have HMV := Lib.hid hmv
                have HLE : Hid (wd.heap.size ≤ wd.heap.size) := Lib.hid (Nat.le_refl _)
                clear hA hB hmv
                refine ⟨hB7, ?_⟩
                refine wpT_tk 5 89 (v := ?_) hB7 rfl rfl (by rfl) (hy := fun w hw => ?_) (h := ?_)
                rotate_left
                · go_simp; with_reducible rfl
                try simp only [Act.put, List.setIfInBounds_toArray, List.set_cons_zero, List.set_cons_succ]
                refine wpT_tk 6 95 (v := ?_) hB7 rfl rfl (by rfl) (hy := fun w hw => ?_) (h := ?_)
                rotate_left
                · go_simp; with_reducible rfl
                try simp only [Act.put, List.setIfInBounds_toArray, List.set_cons_zero, List.set_cons_succ]
                refine wpT_tk 7 96 (v := ?_) hB7 rfl rfl (by rfl) (hy := fun w hw => ?_) (h := ?_)
                rotate_left
                · go_simp; with_reducible rfl
                try simp only [Act.put, List.setIfInBounds_toArray, List.set_cons_zero, List.set_cons_succ]
                clear hB7
                have z0 := cell_heap HR.out (i := 0) rfl
                have z1 := cell_heap HR.out (i := 1) rfl
                have z2 := cell_heap HR.out (i := 2) rfl
                have z3 := cell_heap HR.out (i := 3) rfl
                have z4 := cell_heap HR.out (i := 4) rfl
                have z5 := cell_heap HR.out (i := 5) rfl
                have f0 := frozen_of_row _ _ 0 _ _ HR.out
                have f1 := frozen_of_row _ _ 1 _ _ HR.out
                have f2 := frozen_of_row _ _ 2 _ _ HR.out
                have f3 := frozen_of_row _ _ 3 _ _ HR.out
                have f4 := frozen_of_row _ _ 4 _ _ HR.out
                have f5 := frozen_of_row _ _ 5 _ _ HR.out
                refine wpT_oneW 9 rfl (by rfl) (by kernel_rfl) ?_
                go_simp
                refine ⟨below_six' HB7.out HLE.out, ?_⟩
                refine wpT_oneW 10 rfl (by rfl) (by kernel_rfl) ?_
                go_simp
                try refine ⟨(fun h => by cases h), ?_⟩
                refine wpT_done (by kernel_rfl) ?_ _
                go_wp2_with fail
                go_meet
                case rel =>
                  exact ⟨wd.heap.size, i, kd, m, a, n, kk, bk, f, er, rfl, rfl, sets_row HR.out, HMV.out.sets HL3.out HR.out, belowStep HD.out (below_six' HB7.out HLE.out)⟩
            case rest =>
              obtain ⟨b, i, kd, m, a, n, kk, bk, f, er, rfl, rfl, hr, hmv, hB⟩ := hcut
              clear hwr
              replace HU := Lib.hid (HU.out.via hB)
              replace HG := Lib.hid (HG.out.via hB)
              replace HT := Lib.hid (HT.out.via hB)
              replace HX1 := Lib.hid (heap_below hB HX1.out)
              replace HX3 := Lib.hid (heap_below hB HX3.out)
              replace HX4 := Lib.hid (heap_below hB HX4.out)
              replace HB := Lib.hid (belowStep HB.out hB)
              clear hB
              have HR := Lib.hid hr
              have HMV := Lib.hid hmv
              clear hr hmv
              have z0 := cell_heap HR.out (i := 0) rfl
              have z1 := cell_heap HR.out (i := 1) rfl
              have z2 := cell_heap HR.out (i := 2) rfl
              have z3 := cell_heap HR.out (i := 3) rfl
              have z4 := cell_heap HR.out (i := 4) rfl
              have z5 := cell_heap HR.out (i := 5) rfl
              go_wp2_with fail
              clear z0 z1 z2 z3 z4 z5
              refine (stands_moved HVG.out hK1 HMV.out rfl rfl rfl rfl rfl).mono ?_
              rintro e w8 ⟨rfl, hB⟩
              replace HU := Lib.hid (HU.out.via hB)
              replace HG := Lib.hid (HG.out.via hB)
              replace HT := Lib.hid (HT.out.via hB)
              replace HMV := Lib.hid (HMV.out.via hB)
              replace HX1 := Lib.hid (heap_below hB HX1.out)
              replace HX3 := Lib.hid (heap_below hB HX3.out)
              replace HX4 := Lib.hid (heap_below hB HX4.out)
              replace HR := Lib.hid (heap_below hB HR.out)
              replace HB := Lib.hid (belowStep HB.out hB)
              clear hB
              have hB := alloc_below w8 (.cells #[.int .i64 0, .int .i64 0, .int .i64 0, .int .i64 0, .int .i64 0, .int .i64 0, .int .i64 0, .int .i64 0] 42)
              replace HU := Lib.hid (HU.out.via hB)
              replace HG := Lib.hid (HG.out.via hB)
              replace HT := Lib.hid (HT.out.via hB)
              replace HMV := Lib.hid (HMV.out.via hB)
              replace HX1 := Lib.hid (heap_below hB HX1.out)
              replace HX3 := Lib.hid (heap_below hB HX3.out)
              replace HX4 := Lib.hid (heap_below hB HX4.out)
              replace HR := Lib.hid (heap_below hB HR.out)
              replace HB := Lib.hid (belowStep HB.out hB)
              clear hB
              go_upto_region 24 with fail
              obtain ⟨v8, hv8⟩ : ∃ v : World, v = (w8.alloc (.cells #[.int .i64 0, .int .i64 0, .int .i64 0, .int .i64 0, .int .i64 0, .int .i64 0, .int .i64 0, .int .i64 0] 42)) := ⟨_, rfl⟩
              rw [← hv8] at HU
              rw [← hv8] at HG
              rw [← hv8] at HX1
              rw [← hv8] at HX3
              rw [← hv8] at HX4
              rw [← hv8] at HB
              rw [← hv8]
              clear hv8 HMV HR HT
              go_cut [106] (fun s wx => s = .bool false ∧ wx = v8)
              case first =>
                by_cases her : er = 0
                · subst her
                  go_wp2_with fail
                  go_meet
                  case rel => exact ⟨rfl, rfl⟩
                · go_wp2_with fail
                  go_meet
                  case rel => exact ⟨rfl, rfl⟩
              case rest =>
                obtain ⟨rfl, rfl⟩ := hcut
                obtain ⟨hP2, hQ2, hlt0, h2e⟩ := HEF.out
                dsimp only at hP2 hQ2 hlt0
                have H2E := Lib.hid h2e
                clear h2e
                subst hP2
                subst hQ2
                go_wp2_with fail
                go_loopw [26, 27] (fun a c wr => ∃ m : Nat, m ≤ j ∧ a = .int .i64 (cnt (endB (P1, 0) (Q1, 0)) l' m) ∧ c = .int .i64 m ∧ Below wc.heap.size wc wr) (fun _ c _ => j - (intOf c).toNat)
                case atStart => exact ⟨0, by omega, rfl, rfl, Below.refl _ _⟩
                case round =>
                  obtain ⟨m1, hm, rfl, rfl, hB⟩ := hrel
                  have HBR := Lib.hid hB
                  have HG := Lib.hid (HG.out.via hB)
                  have HX1 := Lib.hid (heap_below hB HX1.out)
                  have HX4 := Lib.hid (heap_below hB HX4.out)
                  have HX3' := heap_below hB HX3.out
                  rw [← HN.out] at HX3'
                  have z3 := cell_heap HX3' (i := 3) rfl
                  have HB := Lib.hid (belowStep HB.out hB)
                  clear HX3' hB
                  have q0 := cell_heap HX4.out (i := 0) rfl
                  have q1 := cell_heap HX4.out (i := 1) rfl
                  have q2 := cell_heap HX4.out (i := 2) rfl
                  have q3 := cell_heap HX4.out (i := 3) rfl
                  have q4 := cell_heap HX4.out (i := 4) rfl
                  have q5 := cell_heap HX4.out (i := 5) rfl
                  have q6 := cell_heap HX4.out (i := 6) rfl
                  have q7 := cell_heap HX4.out (i := 7) rfl
                  by_cases hlt : m1 < j
                  · have hlt' : (m1 : Int) < j := by omega
                    have hat := HG.out.at_
                    rw [← HL'.out] at hat
                    obtain ⟨⟨a1, c1, he, _, _, hin⟩, _⟩ := hat
                    obtain ⟨h1, _, h3⟩ : ra = a1 ∧ u.shape.length = l'.length ∧ ka = c1 := by simpa using he
                    subst h1
                    subst h3
                    obtain ⟨g, o, rfl, x0, x1⟩ := hin.get (k := m1) (by rw [← HNG.out]; exact hlt)
                    have HC := Lib.hid (cnt_succ (endB (P1, 0) (Q1, 0)) (l := l') (k := m1) (by rw [← HNG.out]; exact hlt))
                    have hcl := cnt_le (endB (P1, 0) (Q1, 0)) l' m1
                    obtain ⟨c0, hc0⟩ : ∃ c, c = cnt (endB (P1, 0) (Q1, 0)) l' m1 := ⟨_, rfl⟩
                    rw [← hc0] at HC hcl ⊢
                    clear hin hc0
                    obtain ⟨⟨X, Y⟩, hXY⟩ : ∃ p, p = vx l' m1 := ⟨_, rfl⟩
                    rw [← hXY] at x0 x1 HC
                    dsimp only at x0 x1
                    clear hXY
                    rcases pt_cases X Y P1 0 with ⟨rfl, rfl⟩ | hn | ⟨rfl, hn⟩
                    · have hce : cnt (endB (X, 0) (Q1, 0)) l' (m1 + 1) = c0 + 1 := by rw [HC.out, if_pos (by unfold endB; simp)]
                      go_wp2_with fail
                      go_quiet (fail)
                      go_wp2_with fail
                      go_roundw
                      case rel => exact ⟨m1 + 1, by omega, by rw [hce]; rfl, by go_num, below_drewN HBR.out _⟩
                      case measure => simp [intOf]; omega
                    · rcases pt_cases X Y Q1 0 with ⟨rfl, rfl⟩ | hn2 | ⟨rfl, hn2⟩
                      · have hce : cnt (endB (P1, 0) (X, 0)) l' (m1 + 1) = c0 + 1 := by rw [HC.out, if_pos (by unfold endB; simp)]
                        go_wp2_with fail
                        go_quiet (fail)
                        go_wp2_with fail
                        go_roundw
                        case rel => exact ⟨m1 + 1, by omega, by rw [hce]; rfl, by go_num, below_drewN HBR.out _⟩
                        case measure => simp [intOf]; omega
                      · have hce : cnt (endB (P1, 0) (Q1, 0)) l' (m1 + 1) = c0 + 0 := by rw [HC.out, if_neg (by unfold endB; simp; omega)]
                        go_wp2_with fail
                        go_quiet (fail)
                        go_wp2_with fail
                        go_roundw
                        case rel => exact ⟨m1 + 1, by omega, by rw [hce]; rfl, by go_num, below_drewN HBR.out _⟩
                        case measure => simp [intOf]; omega
                      · have hce : cnt (endB (P1, 0) (X, 0)) l' (m1 + 1) = c0 + 0 := by rw [HC.out, if_neg (by unfold endB; simp; omega)]
                        go_wp2_with fail
                        go_quiet (fail)
                        go_wp2_with fail
                        go_roundw
                        case rel => exact ⟨m1 + 1, by omega, by rw [hce]; rfl, by go_num, below_drewN HBR.out _⟩
                        case measure => simp [intOf]; omega
                    · have hn2 : ¬ X = Q1 := by omega
                      have hce : cnt (endB (X, 0) (Q1, 0)) l' (m1 + 1) = c0 + 0 := by rw [HC.out, if_neg (by unfold endB; simp; omega)]
                      go_wp2_with fail
                      go_quiet (fail)
                      go_wp2_with fail
                      go_roundw
                      case rel => exact ⟨m1 + 1, by omega, by rw [hce]; rfl, by go_num, below_drewN HBR.out _⟩
                      case measure => simp [intOf]; omega
                  · obtain rfl : m1 = j := by omega
                    have hce : cnt (endB (P1, 0) (Q1, 0)) l' m1 = 2 := by rw [HNG.out, cnt_all]; exact H2E.out
                    rw [hce]
                    have hj0 : ¬ m1 < u.shape.length := by have := HN.out; omega
                    clear z3
                    have x0 := cell_heap HX1.out (i := 0) rfl
                    have x1 := cell_heap HX1.out (i := 1) rfl
                    have x2 := cell_heap HX1.out (i := 2) rfl
                    have x3 := cell_heap HX1.out (i := 3) rfl
                    have x4 := cell_heap HX1.out (i := 4) rfl
                    have x5 := cell_heap HX1.out (i := 5) rfl
                    have HX3c := Lib.hid (heap_below HBR.out HX3.out)
                    have w3 := cell_heap HX3c.out (i := 3) rfl
                    go_wp2_with fail
                    go_ret
                    exact ⟨rfl, HB.out⟩
end Go.Proofs.YtcamncipkofgkaaDoor
