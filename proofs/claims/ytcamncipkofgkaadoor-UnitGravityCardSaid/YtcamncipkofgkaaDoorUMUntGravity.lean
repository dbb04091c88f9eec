/- The walk of UnitGravity. -/
import Derived.Test.YtcamncipkofgkaaDoorUM10
namespace Go.Proofs.YtcamncipkofgkaaDoor
open Go.RowKit Go.Shelf Pln Unt
theorem dens_mat {u : U} (v : ValU u) : 3 ≤ dens u.mat ∧ dens u.mat ≤ 10 := dens_bd v.m0 v.m1
theorem wt_bd {u : U} (v : ValU u) : 0 < wtP u ∧ wtP u ≤ 1000000000000 := by
  refine ⟨wt_pos v, ?_⟩
  have h1 := area_bd v.v
  have h2 := dens_mat v
  have h3 : -(3200000000 * 8) ≤ areaP u.shape * (u.front - u.back) ∧ areaP u.shape * (u.front - u.back) ≤ 3200000000 * 8 := mul_bd3 (by omega) (by omega) (by have := v.bf; omega) (by have := v.b0; have := v.f1; omega) (by omega)
  have h4 := mul_bd3 (x := 3 * (areaP u.shape * (u.front - u.back))) (n := dens u.mat) (M := 3 * (3200000000 * 8)) (N := 10) (by omega) (by omega) (by omega) (by omega) (by omega)
  unfold wtP
  rw [if_pos ((valU_iff u).2 v)]
  omega
set_option maxRecDepth 100000 in
set_option maxHeartbeats 4000000 in
theorem gravity_w (x y : List Pt) (hx : (x.length : Int) ≤ 9223372036854775807) (hy : (y.length : Int) ≤ 9223372036854775807) (how : Int) (hh : I64 how) (a0 a1 a2 a3 : Int)
    (ha : I64 a0 ∧ I64 a1 ∧ I64 a2 ∧ I64 a3) (vx1 vx2 : Value) (w : World) (h1 : PtsAt w vx1 x) (h2 : PtsAt w vx2 y) (hT : TabU w) :
    Calls Tryd.prog 6 #[vx1, vx2, .int .i64 how, .agg #[.int .i64 a0, .int .i64 a1, .int .i64 a2, .int .i64 a3]] w fun e w' => e = .returned (.bool true) ∧ Below w.heap.size w w' := by
  have HH := Lib.hid hh
  have HA := Lib.hid ha
  have HX := Lib.hid hx
  have HY := Lib.hid hy
  have hB := alloc_below w (.cells #[.int .i64 a0, .int .i64 a1, .int .i64 a2, .int .i64 a3] 23)
  have HP := Lib.hid (heap_alloc_new w (.cells #[.int .i64 a0, .int .i64 a1, .int .i64 a2, .int .i64 a3] 23))
  have H1 := Lib.hid (h1.via hB)
  have H2 := Lib.hid (h2.via hB)
  have HT := Lib.hid (hT.via hB)
  have HB := Lib.hid hB
  clear hh ha hx hy h1 h2 hT hB
  go_enter Tryd.func6, Tryd.ntmps6
  go_wp2_with fail
  refine (sane8_w _ HT.out).mono ?_
  rintro e w1 ⟨rfl, hB⟩
  have HP1 := heap_below hB HP.out
  have p0 := cell_heap HP1 (i := 0) rfl
  have p1 := cell_heap HP1 (i := 1) rfl
  have p2 := cell_heap HP1 (i := 2) rfl
  have p3 := cell_heap HP1 (i := 3) rfl
  replace H1 := Lib.hid (H1.out.via hB)
  replace H2 := Lib.hid (H2.out.via hB)
  replace HT := Lib.hid (HT.out.via hB)
  replace HB := Lib.hid (belowStep HB.out hB)
  clear hB HP HP1
  go_wp2_with fail
  clear p0 p1 p2 p3
  refine (pair8_w x y HX.out HY.out how HH.out a0 a1 a2 a3 a0 a1 a2 a3 HA.out HA.out vx1 vx2 _ H1.out H2.out).mono ?_
  rintro e w2 ⟨u, t, r, s, rfl, vu, vt, hu, ht, hB⟩
  replace HT := Lib.hid (HT.out.via hB)
  replace HB := Lib.hid (belowStep HB.out hB)
  have HU := Lib.hid hu
  have VU := Lib.hid vu
  have HV := Lib.hid ht
  have VT := Lib.hid vt
  obtain ⟨ar, cr, rfl⟩ : ∃ a c, r = .slice a u.shape.length c := by obtain ⟨⟨a, c, h, _⟩, _⟩ := hu.at_; exact ⟨a, c, h⟩
  obtain ⟨at1, ct1, rfl⟩ : ∃ a c, s = .slice a t.shape.length c := by obtain ⟨⟨a, c, h, _⟩, _⟩ := ht.at_; exact ⟨a, c, h⟩
  clear hu ht vt vu hB H1 H2 HH HA HX HY
  unfold uv
  go_upto_region 5 with fail
  obtain ⟨v1, hv1⟩ : ∃ v : World, v = (w2.alloc (.cells #[.int .i64 u.id, .int .i64 u.kind, .int .i64 u.mat, .slice ar u.shape.length cr, .int .i64 u.back, .int .i64 u.front] 27)).alloc (.cells #[.int .i64 t.id, .int .i64 t.kind, .int .i64 t.mat, .slice at1 t.shape.length ct1, .int .i64 t.back, .int .i64 t.front] 27) := ⟨_, rfl⟩
  have hB1 : Below w2.heap.size w2 (w2.alloc (.cells #[.int .i64 u.id, .int .i64 u.kind, .int .i64 u.mat, .slice ar u.shape.length cr, .int .i64 u.back, .int .i64 u.front] 27)) := alloc_below _ _
  have hB2 : Below (w2.alloc (.cells #[.int .i64 u.id, .int .i64 u.kind, .int .i64 u.mat, .slice ar u.shape.length cr, .int .i64 u.back, .int .i64 u.front] 27)).heap.size (w2.alloc (.cells #[.int .i64 u.id, .int .i64 u.kind, .int .i64 u.mat, .slice ar u.shape.length cr, .int .i64 u.back, .int .i64 u.front] 27)) v1 := by rw [hv1]; exact alloc_below _ _
  have hs1 : (w2.alloc (.cells #[.int .i64 u.id, .int .i64 u.kind, .int .i64 u.mat, .slice ar u.shape.length cr, .int .i64 u.back, .int .i64 u.front] 27)).heap.size = w2.heap.size + 1 := by simp
  have HX1 : Hid (v1.heap[w2.heap.size]? = some (.cells #[.int .i64 u.id, .int .i64 u.kind, .int .i64 u.mat, .slice ar u.shape.length cr, .int .i64 u.back, .int .i64 u.front] 27 (0, 0))) := Lib.hid (heap_below hB2 (heap_alloc_new w2 (.cells #[.int .i64 u.id, .int .i64 u.kind, .int .i64 u.mat, .slice ar u.shape.length cr, .int .i64 u.back, .int .i64 u.front] 27)))
  have HX2 : Hid (v1.heap[w2.heap.size + 1]? = some (.cells #[.int .i64 t.id, .int .i64 t.kind, .int .i64 t.mat, .slice at1 t.shape.length ct1, .int .i64 t.back, .int .i64 t.front] 27 (0, 0))) := Lib.hid (by rw [← hs1, hv1]; exact heap_alloc_new _ _)
  have HZ : Hid (w2.heap.size + 2 ≤ v1.heap.size) := Lib.hid (by rw [hv1]; simp)
  have hB := belowStep hB1 hB2
  rw [← hv1]
  clear hB1 hB2 hs1 hv1
  replace HU := Lib.hid (HU.out.via hB)
  replace HV := Lib.hid (HV.out.via hB)
  replace HT := Lib.hid (HT.out.via hB)
  replace HB := Lib.hid (belowStep HB.out hB)
  clear hB
  obtain ⟨n, hn⟩ : ∃ n, n = u.shape.length := ⟨_, rfl⟩
  have HN := Lib.hid hn
  have hn1 : 3 ≤ n := by rw [hn]; exact VU.out.v.lo
  have hn2 : (n : Int) ≤ 100 := by have := VU.out.v.hi; omega
  clear hn
  have HX1' := HX1.out
  rw [← HN.out] at HX1'
  have z3 := cell_heap HX1' (i := 3) rfl
  clear HX1'
  go_wp2_with fail
  go_loopw [12, 13, 14] (fun a b c wr => ∃ (L R : Int) (k : Nat), k ≤ n ∧ a = .int .i64 L ∧ b = .int .i64 R ∧ c = .int .i64 k ∧ 0 ≤ L ∧ L ≤ 40 ∧ 0 ≤ R ∧ R ≤ 40 ∧ (∀ i, i < k → L ≤ (vx u.shape i).1) ∧ (∀ i, i < k → (vx u.shape i).1 ≤ R) ∧ wr = v1) (fun _ _ c _ => n - (intOf c).toNat)
  case atStart => exact ⟨40, 0, 0, by omega, rfl, rfl, rfl, by omega, by omega, by omega, by omega, fun i hi => by omega, fun i hi => by omega, rfl⟩
  case round =>
    obtain ⟨L, R, k, hk, rfl, rfl, rfl, l0, l1, r0, r1, hL, hR, rfl⟩ := hrel
    by_cases hlt : k < n
    · have hlt' : (k : Int) < n := by omega
      obtain ⟨⟨a, c, he, _, _, hin⟩, _⟩ := HU.out.at_
      cases he
      obtain ⟨g, o, rfl, x0, x1⟩ := hin.get (k := k) (by rw [← HN.out]; exact hlt)
      have ho := VU.out.v.on k (by rw [← HN.out]; exact hlt)
      obtain ⟨o1, o2, _, _⟩ := ho
      obtain ⟨X, hX⟩ : ∃ X, X = (vx u.shape k).1 := ⟨_, rfl⟩
      rw [← hX] at x0 o1 o2
      have HXX := Lib.hid hX
      have HL := Lib.hid hL
      have HR := Lib.hid hR
      clear hX hin x1 hL hR
      go_wp2_with fail
      refine ⟨⟨if X < L then X else L, if R < X then X else R, k + 1, by omega, rfl, rfl, by go_num, by split <;> omega, by split <;> omega, by split <;> omega, by split <;> omega, fun i hi => ?_, fun i hi => ?_, trivial⟩, by simp [intOf]; omega⟩
      · rcases Nat.lt_or_ge i k with h | h
        · have := HL.out i h; split <;> omega
        · obtain rfl : i = k := by omega
          rw [← HXX.out]; split <;> omega
      · rcases Nat.lt_or_ge i k with h | h
        · have := HR.out i h; split <;> omega
        · obtain rfl : i = k := by omega
          rw [← HXX.out]; split <;> omega
    · obtain rfl : k = n := by omega
      have g1 := mom_left VU.out (c := L) (fun i hi => hL i (by rw [HN.out]; exact hi))
      have g2 := mom_right VU.out (c := R) (fun i hi => hR i (by rw [HN.out]; exact hi))
      have g3 := wt_bd VU.out
      have g4 := mul_bd3 (x := L) (n := wtP u) (M := 40) (N := 1000000000000) (by omega) (by omega) (by omega) g3.2 (by omega)
      have g5 := mul_bd3 (x := R) (n := wtP u) (M := 40) (N := 1000000000000) (by omega) (by omega) (by omega) g3.2 (by omega)
      obtain ⟨g3, _⟩ := g3
      obtain ⟨g6, g7⟩ := g4
      obtain ⟨g8, g9⟩ := g5
      have e1 : IntKind.i64.wrap (L * wtP u) = L * wtP u := IntWalk.i64_in _ (by omega)
      have e2 : IntKind.i64.wrap (R * wtP u) = R * wtP u := IntWalk.i64_in _ (by omega)
      have HW1 := Lib.hid (weight_w u _ wr HU.out HT.out)
      have HM1 := Lib.hid (fun w3 (h : Below wr.heap.size wr w3) => moment_w u _ w3 (HU.out.via h) (HT.out.via h))
      clear hL hR z3
      have x0 := cell_heap HX1.out (i := 0) rfl
      have x1 := cell_heap HX1.out (i := 1) rfl
      have x2 := cell_heap HX1.out (i := 2) rfl
      have x3 := cell_heap HX1.out (i := 3) rfl
      have x4 := cell_heap HX1.out (i := 4) rfl
      have x5 := cell_heap HX1.out (i := 5) rfl
      generalize wtP u = wt at *
      generalize momP u = mo at *
      have hk0 : ¬ k < u.shape.length := by have := HN.out; omega
      go_wp2_with fail
      refine HW1.out.mono ?_
      rintro e w3 ⟨rfl, hB⟩
      replace x0 := keptBelow hB x0
      replace x1 := keptBelow hB x1
      replace x2 := keptBelow hB x2
      replace x3 := keptBelow hB x3
      replace x4 := keptBelow hB x4
      replace x5 := keptBelow hB x5
      replace HB := Lib.hid (belowStep HB.out hB)
      have HM2 := Lib.hid (HM1.out _ hB)
      clear hB
      go_wp2_with fail
      refine HM2.out.mono ?_
      rintro e w4 ⟨rfl, hB⟩
      replace HB := Lib.hid (belowStep HB.out hB)
      clear hB x0 x1 x2 x3 x4 x5
      go_wp2_with fail
      go_ret
      exact ⟨rfl, HB.out⟩
end Go.Proofs.YtcamncipkofgkaaDoor
