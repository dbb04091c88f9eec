/- ClockNarrows: what the law's body answers. -/
import Derived.StillTailTactics
import Derived.Maps.AppendAt
import Derived.Test.YtebhalcoemkomaaClkNarrowP
import Derived.Test.YtebhalcoemkomaaClkNarrowW
namespace Go.Proofs.Ytebhalcoemkomaa
open Go.RowKit Putlog

set_option maxRecDepth 100000 in
set_option maxHeartbeats 8000000 in
theorem Narrows_calls (drift start : Int) (rates : List Int) (A : List Rd) (v u : Value) (which b0 b1 local_ : Int) (W : World) (h0 : I64 drift) (h1 : I64 start) (hr : NumsAt W v rates) (hri : ∀ x ∈ rates, I64 x) (hA : RdsAt W u A) (h4 : I64 which) (h5 : I64 b0) (h6 : I64 b1) (h7 : I64 local_) :
    Calls Try.prog 6 #[.int .i64 drift, .int .i64 start, v, u, .int .i64 which, .agg #[.int .i64 b0, .int .i64 b1], .int .i64 local_] W fun e w' => e = .returned (.bool true) ∧ Below W.heap.size W w' := by
  have HM := Lib.hid (fun w (hB : Below W.heap.size W w) => made_any drift start rates A v u w h0 h1 (hr.via hB) hri (hA.via hB))
  have HK := Lib.hid (fun (n : Int) (hn : 0 < n) (hn2 : n ≤ 9223372036854775807) w => pick_any which n h4.1 h4.2 hn hn2 w)
  have HKB := Lib.hid (fun (n : Int) (hn : 0 < n) => pkN_bounds which (n := n) hn)
  have HP0 := Lib.hid (fun w => pick_any b0 100 h5.1 h5.2 (by decide) (by decide) w)
  have HP1 := Lib.hid (fun w => pick_any b1 100 h6.1 h6.2 (by decide) (by decide) w)
  have HO := Lib.hid (fun w => pick_any local_ 5000 h7.1 h7.2 (by decide) (by decide) w)
  obtain ⟨p0, p1⟩ := pkN_bounds b0 (n := 100) (by decide)
  obtain ⟨q0, q1⟩ := pkN_bounds b1 (n := 100) (by decide)
  have HST := Lib.hid (pkN_bounds start (n := 1000) (by decide))
  clear h0 h1 hr hri hA h4 h5 h6 h7
  generalize pkN b0 100 = a at *
  generalize pkN b1 100 = b at *
  generalize pkN local_ 5000 = O at *
  go_enter Try.func6, Try.ntmps6
  go_wp2_with fail
  have hW0 := alloc_below W (.cells #[.int .i64 b0, .int .i64 b1] 48)
  have HW := Lib.hid hW0
  have HBY : Hid ((W.alloc (.cells #[.int .i64 b0, .int .i64 b1] 48)).heap[W.heap.size]? = some (.cells #[.int .i64 b0, .int .i64 b1] 48 (0, 0))) := heap_alloc_new W _
  clear hW0
  generalize W.alloc (.cells #[.int .i64 b0, .int .i64 b1] 48) = w0 at *
  refine (sane_any w0).mono ?_
  rintro e w1 ⟨rfl, hB⟩
  have HW := Lib.hid (belowVia hB HW.out)
  have HBY := Lib.hid (heap_below hB HBY.out)
  clear hB
  go_wp2_with fail
  refine (HM.out _ HW.out).mono ?_
  rintro e w2 ⟨rs, x, rfl, hm, hx, hB⟩
  have HW := Lib.hid (belowVia hB HW.out)
  have HBY := Lib.hid (heap_below hB HBY.out)
  have HMD := Lib.hid hm
  have HX := Lib.hid hx
  obtain ⟨xa, xc, hxe, _, _, _⟩ := hx.at_
  subst hxe
  clear hm hx hB
  have hx12 := HMD.out.few
  by_cases hk0 : rs.length = 0
  · have HWW := Lib.hid (belowVia (alloc_below w2 (.cells #[.int .i64 (pkN drift 101), .slice xa rs.length xc] 24)) HW.out)
    clear hx12
    rw [hk0] at HWW
    rw [hk0]
    clear HX HW HBY
    go_wp2_with fail
    go_ret
    exact ⟨rfl, HWW.out⟩
  · have hkb : ((rs.length : Int) == 0) = false := by rw [beq_eq_false_iff_ne]; omega
    have HLN := Lib.hid hk0
    clear hk0
    go_wp2_with fail
    have HW := Lib.hid (belowVia (alloc_below w2 (.cells #[.int .i64 (pkN drift 101), .slice xa rs.length xc] 24)) HW.out)
    have HBY := Lib.hid (heap_below (alloc_below w2 (.cells #[.int .i64 (pkN drift 101), .slice xa rs.length xc] 24)) HBY.out)
    have HC := Lib.hid (ClockAt.new (d := pkN drift 101) HX.out)
    clear HX
    generalize w2.alloc (.cells #[.int .i64 (pkN drift 101), .slice xa rs.length xc] 24) = w3 at *
    generalize w2.heap.size = q at *
    have c0 := HC.out.c0
    have c1 := HC.out.c1
    refine (HO.out _).mono ?_
    rintro e w4 ⟨rfl, rfl⟩
    go_wp2_with fail
    refine (HK.out rs.length (by have := HLN.out; omega) (by omega) _).mono ?_
    rintro e w4 ⟨rfl, rfl⟩
    obtain ⟨k0, k1⟩ := HKB.out rs.length (by have := HLN.out; omega)
    obtain ⟨kk, hkk⟩ : ∃ kk : Nat, pkN which rs.length = kk := ⟨(pkN which rs.length).toNat, by omega⟩
    rw [hkk] at k1 ⊢
    have HF := Lib.hid (fewR_ok HMD.out kk)
    have HV := Lib.hid (vagR_ok (a := a) (b := b) HMD.out (fun r hr => by have := readOf_bounds HMD.out.d0 HMD.out.d1 HST.out.1 HST.out.2 (HMD.out.reads r hr); omega) kk p0 q0 (by omega))
    clear k0 hkk HK HKB HO HM
    have clt := lt_of_cell c0
    go_wp2_with fail
    have HDD := Lib.hid (And.intro HMD.out.d0 HMD.out.d1)
    have HRB := Lib.hid (fun r hr => readOf_bounds HMD.out.d0 HMD.out.d1 HST.out.1 HST.out.2 (HMD.out.reads r hr))
    obtain ⟨f1, g1, e1, at1, ha1, hc1⟩ := at_three (pkN drift 101) O rs
    obtain ⟨f2, g2, e2, at2, ha2, hc2⟩ := at_three (pkN drift 101) O (fewR rs kk rs.length)
    obtain ⟨f3, g3, e3, at3, ha3, hc3⟩ := at_three (pkN drift 101) O (vagR rs kk a b rs.length)
    have HC1 := Lib.hid hc1
    have HC2 := Lib.hid hc2
    have HC3 := Lib.hid hc3
    have AT1 := Lib.hid at1
    have AT2 := Lib.hid at2
    have AT3 := Lib.hid at3
    have HA1 := Lib.hid ha1
    have HA2 := Lib.hid ha2
    have HA3 := Lib.hid ha3
    clear hc1 hc2 hc3 at1 at2 at3 ha1 ha2 ha3
    have HTW := Lib.hid (TwoAt.new w3 (pkN drift 101))
    generalize pkN drift 101 = d at *
    clear c0 c1 clt
    generalize (w3.alloc (.cells #[.int .i64 d, .slice none 0 0] 24)).alloc (.cells #[.int .i64 d, .slice none 0 0] 24) = w5 at *
    obtain ⟨nn, hnn⟩ : ∃ nn, nn = rs.length := ⟨_, rfl⟩
    have HNN := Lib.hid hnn
    have hnb : (nn : Int) ≤ 12 := by omega
    rw [← hnn] at HC k1
    clear hnn hx12 hkb
    go_loopw [21] (fun i wr => ∃ k : Nat, k ≤ nn ∧ i = .int .i64 k ∧ (∃ v1 v2, TwoAt w3.heap.size d (fewR rs kk k) (vagR rs kk a b k) v1 v2 w3 wr)) (fun i _ => 12 - (intOf i).toNat)
    case atStart => exact ⟨0, Nat.zero_le _, rfl, _, _, HTW.out⟩
    case round =>
      obtain ⟨k, hk, rfl, v1, v2, htw⟩ := hrel
      have HTW := Lib.hid htw
      have HB := Lib.hid htw.below
      clear htw
      have c0 := (HC.out.via HB.out).c0
      have c1 := (HC.out.via HB.out).c1
      have hk12 : (k : Int) ≤ 12 := by omega
      by_cases hlt : k < nn
      · have hlt' : (k : Int) < nn := by omega
        have hkl : k < rs.length := by have := HNN.out; omega
        obtain ⟨⟨xa', xc', hxe, _, _, hin⟩, _⟩ := (HC.out.via HB.out).rd
        cases hxe
        obtain ⟨g, o, rfl, t0, t1, t2⟩ := hin.get hkl
        have hb := HRB.out _ (rds_mem hkl)
        have HVL : Hid ((vagR rs kk a b k).length = k) := vagR_len rs kk a b k
        have HFL : Hid ((fewR rs kk k).length ≤ k) := fewR_len rs kk k
        have HF1 := Lib.hid (fun e : k ≠ kk => fewR_other rs (j := kk) e)
        have HV1 := Lib.hid (fun e : k ≠ kk => vagR_other rs (j := kk) a b e)
        have HF2 : Hid (k = kk → fewR rs kk (k + 1) = fewR rs kk k) := fun e => by rw [e]; exact fewR_same rs kk
        have HV2 : Hid (k = kk → vagR rs kk a b (k + 1) = vagR rs kk a b k ++ [vgR a b (rs.getD k default)]) := fun e => by rw [e]; exact vagR_same rs kk a b
        clear hkl hin
        generalize rs.getD k default = r at *
        obtain ⟨x, y, z⟩ := r
        dsimp only at t0 t1 t2 hb
        obtain ⟨b0', b1', b2', b3', b4'⟩ := hb
        obtain ⟨P1', hP1'⟩ : ∃ P, fewR rs kk (k + 1) = P := ⟨_, rfl⟩
        rw [hP1'] at HF1 HF2
        have HQ1 := Lib.hid hP1'
        clear hP1'
        obtain ⟨P2', hP2'⟩ : ∃ P, vagR rs kk a b (k + 1) = P := ⟨_, rfl⟩
        rw [hP2'] at HV1 HV2
        have HQ2 := Lib.hid hP2'
        clear hP2'
        generalize fewR rs kk k = P1 at *
        generalize vagR rs kk a b k = P2 at *
        obtain ⟨n1, hn1⟩ : ∃ n, P1.length = n := ⟨_, rfl⟩
        have HN1 := Lib.hid hn1
        have hn1b : (n1 : Int) ≤ 12 := by have := HFL.out; omega
        clear hn1
        obtain ⟨a1, cp1, rfl⟩ := owns_val HTW.out.b1.row HN1.out
        obtain ⟨a2, cp2, rfl⟩ := owns_val HTW.out.b2.row HVL.out
        have m1 := HTW.out.p1
        have m2 := HTW.out.p2
        have mlt1 := lt_of_cell m1
        have mlt2 := lt_of_cell m2
        have H3 := Lib.hid (ThreeAt.new HTW.out x y z)
        obtain ⟨i0, hj, hz0, hz1, hz2⟩ := info_parts info_rd
        have HJ0 := Lib.hid hj
        have HZ0 := Lib.hid hz0
        have HZ1 := Lib.hid hz1
        have HZ2 := Lib.hid hz2
        have HR1 : Hid (P1.length + 1 ≤ maxLen) := by show _ ≤ _; have := HN1.out; unfold maxLen; omega
        have HR2 : Hid ((P1.length + 1) * 24 ≤ 140737488355328) := by show _ ≤ _; have := HN1.out; omega
        have HR1' : Hid (P2.length + 1 ≤ maxLen) := by show _ ≤ _; have := HVL.out; unfold maxLen; omega
        have HR2' : Hid ((P2.length + 1) * 24 ≤ 140737488355328) := by show _ ≤ _; have := HVL.out; omega
        clear hj hz0 hz1 hz2
        have HS1 : Hid (w3.heap.size + 2 ≤ ((wr.alloc (.cells #[.int .i64 x, .int .i64 y, .int .i64 z] 50)).alloc (.cells #[.int .i64 x, .int .i64 y, .int .i64 z] 50)).heap.size) := by
          have h := HTW.out.size
          show _ ≤ _
          simp; omega
        by_cases hkk : k = kk
        · have hkb : ((k : Int) != (kk : Int)) = false := by subst hkk; simp
          have HE1 := Lib.hid (HF2.out hkk)
          have HE2 := Lib.hid (HV2.out hkk)
          clear hkk HF1 HV1 HF2 HV2
          go_wp2_with fail
          have HY := Lib.hid (heap_below (alloc_below wr (.cells #[.int .i64 x, .int .i64 y, .int .i64 z] 50)) (heap_below HB.out HBY.out))
          have h3 := H3.out
          generalize wr.alloc (.cells #[.int .i64 x, .int .i64 y, .int .i64 z] 50) = wa at *
          generalize wr.heap.size = rb at *
          have e0 := h3.c0
          have e1 := h3.c1
          have e2 := h3.c2
          have ef := h3.fz 1
          have y0 := (cell_of_row _ _ 0 _ _ _ HY.out).trans (by rfl : _ = some (.int .i64 b0))
          have hw1 : IntKind.i64.wrap (y - a) = y - a := by rw [IntKind.wrap_i64]; omega
          clear h3
          have HWL : Hid (W.heap.size < w3.heap.size) := (Array.getElem?_eq_some_iff.1 HBY.out).1
          go_still_tail 8, (by kernel_rfl)
          still_call ((HP0.out _).mono (fun e w' h => ⟨h.1, h.2.symm⟩))
          repeat still_step
          try refine wpStill_nil ?_
          have H4 := Lib.hid (H3.out.via (Below.refl wa.heap.size wa).drew)
          have HY := Lib.hid (heap_below (Below.refl wa.heap.size wa).drew HY.out)
          have ef := H4.out.fz 1
          change wpList _ _ _ _ _ wa.drew
          generalize wa.drew = wb at *
          have eg := H4.out.c1
          go_wp2_with fail
          clear e0 e1 e2 ef eg y0
          obtain ⟨y', hy'⟩ : ∃ y', y' = max (y - a) 0 := ⟨_, rfl⟩
          rw [← hy']
          have HYE := Lib.hid hy'
          have hyb : 0 ≤ y' ∧ y' ≤ y := by omega
          clear hy'
          have H5 := Lib.hid (H4.out.set1 y')
          have hlo := H5.out.lo
          have HY := Lib.hid ((heap_setCell_other wb ⟨rb, 1, none⟩ W.heap.size (.int .i64 y') (by show W.heap.size ≠ rb; have := HWL.out; omega)).trans HY.out)
          generalize wb.setCell ⟨rb, 1, none⟩ (.int .i64 y') = wc at *
          have e0 := H5.out.c0
          have e1 := H5.out.c1
          have e2 := H5.out.c2
          have y0 := (cell_of_row _ _ 1 _ _ _ HY.out).trans (by rfl : _ = some (.int .i64 b1))
          have hw1 : IntKind.i64.wrap (z + b) = z + b := by rw [IntKind.wrap_i64]; omega
          go_still_tail 7, (by kernel_rfl)
          still_call ((HP1.out _).mono (fun e w' h => ⟨h.1, h.2.symm⟩))
          repeat still_step
          try refine wpStill_nil ?_
          have H6 := Lib.hid (H5.out.via (Below.refl wc.heap.size wc).drew)
          change wpList _ _ _ _ _ wc.drew
          generalize wc.drew = wd at *
          have ef := H6.out.fz 2
          have eg := H6.out.c2
          clear e0 e1 e2 y0 hw1
          obtain ⟨z', hz'⟩ : ∃ z', z' = z + b := ⟨_, rfl⟩
          rw [← hz']
          have HZE := Lib.hid hz'
          have hzb : 0 ≤ z' ∧ z' ≤ 4000 := by omega
          clear hz'
          have H8 := Lib.hid (H6.out.set2 z')
          have e0 := H8.out.c0
          have e1 := H8.out.c1
          have e2 := H8.out.c2
          have m3 := H8.out.two.p2
          have HS2 : Hid (w3.heap.size + 2 ≤ ((wd.setCell ⟨rb, 2, none⟩ (.int .i64 z')).alloc (.cells #[.int .i64 x, .int .i64 y', .int .i64 z'] 50)).heap.size) := Nat.le_trans H8.out.two.size (alloc_below _ _).size
          go_wp2_with (at_builtin; refine wpList_append_own_at _ rfl _ _ 22 rfl (w3.heap.size + 2) 50 i0 (.agg #[.int .i64 0, .int .i64 0, .int .i64 0]) 3 24 Try.underlying22 HJ0.out HZ0.out HZ1.out HZ2.out rfl (by decide) (.slice a2 k cp2) P2.length (rvals P2) (by rfl) (H8.out.two.b2.row.alloc _) ⟨wd.heap.size, 0, none⟩ 1 1 (rdC (x, y', z')) (by rfl) rfl (news_at _ (x, y', z') _ (by simp)) (one_rd _) HR1'.out HR2'.out HS2.out ?_; intro v'' w8 hown hgrow _ hfr; have HO8 := Lib.hid hown; have HI8 := Lib.hid (H8.out.grow2 hgrow); have H38 := Lib.hid (H8.out.two.push2 hown hgrow hfr); clear hown hgrow hfr; obtain ⟨a4, cp4, rfl⟩ := owns_val HO8.out (by rw [HVL.out] : P2.length + 1 = k + 1); have e7 := HI8.out.p2; have e8 := HI8.out.f2)
          go_roundw
          case rel =>
            refine ⟨k + 1, by omega, by go_num, .slice a1 n1 cp1, .slice a4 (k + 1) cp4, ?_⟩
            rw [HQ1.out, HQ2.out, HE1.out, HE2.out]
            have e : vgR a b (x, y, z) = (x, y', z') := by unfold vgR; rw [HYE.out, HZE.out]
            rw [e]
            exact H38.out
          case measure => simp [intOf]; omega
        · have hkb : ((k : Int) != (kk : Int)) = true := by simp; omega
          have HE1 := Lib.hid (HF1.out hkk)
          have HE2 := Lib.hid (HV1.out hkk)
          clear hkk HF1 HV1 HF2 HV2
          go_wp2_with (first | (at_builtin; refine wpList_append_own_at _ rfl _ _ 22 rfl (w3.heap.size + 2) 50 i0 (.agg #[.int .i64 0, .int .i64 0, .int .i64 0]) 3 24 Try.underlying22 HJ0.out HZ0.out HZ1.out HZ2.out rfl (by decide) (.slice a1 n1 cp1) P1.length (rvals P1) (by rfl) (H3.out.two.b1.row.alloc _) ⟨wr.heap.size + 1, 0, none⟩ 1 1 (rdC (x, y, z)) (by rfl) rfl (news_at _ (x, y, z) _ (by simp)) (one_rd _) HR1.out HR2.out HS1.out ?_; intro v' w6 hown hgrow _ hfr; have HO6 := Lib.hid hown; have HI6 := Lib.hid (H3.out.grow1 hgrow); have H36 := Lib.hid (H3.out.push1 hown hgrow hfr); clear hown hgrow hfr; obtain ⟨a3, cp3, rfl⟩ := owns_val HO6.out (by rw [HN1.out] : P1.length + 1 = n1 + 1); have e1 := HI6.out.p1; have e2 := HI6.out.f1; have e3 := H36.out.two.p2; have e4 := H36.out.c0; have e5 := H36.out.c1; have e6 := H36.out.c2; have HS2 : Hid (w3.heap.size + 2 ≤ ((w6.setCell ⟨w3.heap.size, 1, none⟩ (.slice a3 (n1 + 1) cp3)).alloc (.cells #[.int .i64 x, .int .i64 y, .int .i64 z] 50)).heap.size) := Nat.le_trans H36.out.two.size (alloc_below _ _).size) | (at_builtin; refine wpList_append_own_at _ rfl _ _ 22 rfl (w3.heap.size + 2) 50 i0 (.agg #[.int .i64 0, .int .i64 0, .int .i64 0]) 3 24 Try.underlying22 HJ0.out HZ0.out HZ1.out HZ2.out rfl (by decide) (.slice a2 k cp2) P2.length (rvals P2) (by rfl) (H36.out.two.b2.row.alloc _) ⟨w6.heap.size, 0, none⟩ 1 1 (rdC (x, y, z)) (by rfl) rfl (news_at _ (x, y, z) _ (by simp)) (one_rd _) HR1'.out HR2'.out HS2.out ?_; intro v'' w8 hown hgrow _ hfr; have HO8 := Lib.hid hown; have HI8 := Lib.hid (H36.out.grow2 hgrow); have H38 := Lib.hid (H36.out.two.push2 hown hgrow hfr); clear hown hgrow hfr; obtain ⟨a4, cp4, rfl⟩ := owns_val HO8.out (by rw [HVL.out] : P2.length + 1 = k + 1); have e7 := HI8.out.p2; have e8 := HI8.out.f2))
          go_roundw
          case rel =>
            refine ⟨k + 1, by omega, by go_num, .slice a3 (n1 + 1) cp3, .slice a4 (k + 1) cp4, ?_⟩
            rw [HQ1.out, HQ2.out, HE1.out, HE2.out]
            exact H38.out
          case measure => simp [intOf]; omega
      · have hke : k = rs.length := by have := HNN.out; omega
        rw [hke] at HTW
        have HFO : Hid (RdsOk (fewR rs kk rs.length)) := valid_rds HF.out.1
        have HVO : Hid (RdsOk (vagR rs kk a b rs.length)) := valid_rds HV.out.1
        obtain ⟨a1, cp1, rfl⟩ := owns_val HTW.out.b1.row rfl
        obtain ⟨a2, cp2, rfl⟩ := owns_val HTW.out.b2.row rfl
        have HX1 : Hid (ClockAt d (.slice a1 (fewR rs kk rs.length).length cp1) (fewR rs kk rs.length) w3.heap.size wr) := ⟨(cell_of_row _ _ 0 _ _ _ HTW.out.b1.box).trans rfl, (cell_of_row _ _ 1 _ _ _ HTW.out.b1.box).trans rfl, owns_at HTW.out.b1.row HFO.out⟩
        have HX2 : Hid (ClockAt d (.slice a2 (vagR rs kk a b rs.length).length cp2) (vagR rs kk a b rs.length) (w3.heap.size + 1) wr) := ⟨(cell_of_row _ _ 0 _ _ _ HTW.out.b2.box).trans rfl, (cell_of_row _ _ 1 _ _ _ HTW.out.b2.box).trans rfl, owns_at HTW.out.b2.row HVO.out⟩
        have HCC := Lib.hid (HC.out.via HB.out)
        have HW := Lib.hid (belowVia HB.out HW.out)
        clear HTW
        go_wp2_with fail
        clear c0 c1
        refine (HC1.out _ _ HCC.out.rd).mono ?_
        rintro e w7 ⟨rfl, hB⟩
        have HW := Lib.hid (belowVia hB HW.out)
        have HX1 := Lib.hid (HX1.out.via hB)
        have HX2 := Lib.hid (HX2.out.via hB)
        clear hB
        have m0 := HX1.out.c0
        have m1 := HX1.out.c1
        go_wp2_with fail
        clear m0 m1
        refine (HC2.out _ _ HX1.out.rd).mono ?_
        rintro e w8 ⟨rfl, hB⟩
        have HW := Lib.hid (belowVia hB HW.out)
        have HX2 := Lib.hid (HX2.out.via hB)
        clear hB
        have m0 := HX2.out.c0
        have m1 := HX2.out.c1
        go_wp2_with fail
        clear m0 m1
        refine (HC3.out _ _ HX2.out.rd).mono ?_
        rintro e w9 ⟨rfl, hB⟩
        have HW := Lib.hid (belowVia hB HW.out)
        clear hB
        rcases AT1.out with ⟨rfl, hf1, hg1, hfg1⟩ | ⟨rfl, rfl, rfl⟩
        · obtain ⟨_, l0, l1, _⟩ := atOk_iff.1 (HA1.out.2 rfl)
          obtain ⟨x1, x2⟩ := wider_win (d := d) (l := O) HF.out.2
          obtain ⟨x3, x4⟩ := wider_win (d := d) (l := O) HV.out.2
          have o2 := HA2.out.1 (atOk_iff.2 ⟨HF.out.1, l0, l1, by omega⟩)
          have o3 := HA3.out.1 (atOk_iff.2 ⟨HV.out.1, l0, l1, by omega⟩)
          subst o2 o3
          have b2 : f2 = winF d O (fewR rs kk rs.length) ∧ g2 = winG d O (fewR rs kk rs.length) := by
            rcases AT2.out with ⟨_, u, v, _⟩ | ⟨h, _⟩
            · exact ⟨u, v⟩
            · cases h
          have b3 : f3 = winF d O (vagR rs kk a b rs.length) ∧ g3 = winG d O (vagR rs kk a b rs.length) := by
            rcases AT3.out with ⟨_, u, v, _⟩ | ⟨h, _⟩
            · exact ⟨u, v⟩
            · cases h
          have y1 : f2 ≤ f1 := by rw [b2.1, hf1]; exact x1
          have y2 : g1 ≤ g2 := by rw [b2.2, hg1]; exact x2
          have y3 : f3 ≤ f1 := by rw [b3.1, hf1]; exact x3
          have y4 : g1 ≤ g3 := by rw [b3.2, hg1]; exact x4
          clear x1 x2 x3 x4 b2 b3 hf1 hg1 hfg1 l0 l1
          go_wp2_with fail
          go_ret
          exact ⟨rfl, HW.out⟩
        · go_wp2_with fail
          go_ret
          exact ⟨rfl, HW.out⟩
end Go.Proofs.Ytebhalcoemkomaa
