/- IntegerMachine's body. -/
import Derived.Test.YtggkbeppfpgkaaaDoorIntTextB
namespace Go.Proofs.YtggkbeppfpgkaaaDoor
open Go.RowKit Putlog

/-- Truncated and Euclid's division. -/
theorem ediv_tdiv0 {a b : Int} (hb : b ≠ 0) (h : 0 ≤ a.tmod b) : a / b = a.tdiv b ∧ a % b = a.tmod b := by
  have h1 := Int.tmod_add_mul_tdiv a b
  have h2 : (a.tmod b).natAbs < b.natAbs := by rw [Int.natAbs_tmod]; exact Nat.mod_lt _ (by omega)
  obtain ⟨h3, h4⟩ := ediv_unique (a := a) (b := b) (q := a.tdiv b) (r := a.tmod b) hb (by rw [Int.mul_comm (a.tdiv b) b]; omega) h (by omega)
  exact ⟨h3.symm, h4.symm⟩
theorem ediv_tdiv1 {a b : Int} (hb : 0 < b) (h : a.tmod b < 0) : a / b = a.tdiv b - 1 ∧ a % b = a.tmod b + b := by
  have h1 := Int.tmod_add_mul_tdiv a b
  have h2 : (a.tmod b).natAbs < b.natAbs := by rw [Int.natAbs_tmod]; exact Nat.mod_lt _ (by omega)
  obtain ⟨h3, h4⟩ := ediv_unique (a := a) (b := b) (q := a.tdiv b - 1) (r := a.tmod b + b) (by omega) (by rw [Int.sub_mul, Int.one_mul, Int.mul_comm (a.tdiv b) b]; omega) (by omega) (by omega)
  exact ⟨h3.symm, h4.symm⟩
theorem ediv_tdiv2 {a b : Int} (hb : b < 0) (h : a.tmod b < 0) : a / b = a.tdiv b + 1 ∧ a % b = a.tmod b - b := by
  have h1 := Int.tmod_add_mul_tdiv a b
  have h2 : (a.tmod b).natAbs < b.natAbs := by rw [Int.natAbs_tmod]; exact Nat.mod_lt _ (by omega)
  obtain ⟨h3, h4⟩ := ediv_unique (a := a) (b := b) (q := a.tdiv b + 1) (r := a.tmod b - b) (by omega) (by rw [Int.add_mul, Int.one_mul, Int.mul_comm (a.tdiv b) b]; omega) (by omega) (by omega)
  exact ⟨h3.symm, h4.symm⟩
theorem mul_bound {a b : Int} (ha : a.natAbs ≤ 2147483648) (hb : b.natAbs ≤ 2147483648) : (a * b).natAbs ≤ 4611686018427387904 := by
  rw [Int.natAbs_mul]
  exact Nat.mul_le_mul ha hb
theorem fits20 {z : Int} (h : z.natAbs ≤ 9223372036854775807) : Fits z := int_fits (by omega) (by omega)
set_option maxRecDepth 100000 in
set_option maxHeartbeats 20000000 in
theorem Machine_calls (a b : Int) (w : World) (ha0 : -2147483648 ≤ a) (ha1 : a ≤ 2147483647) (hb0 : -2147483648 ≤ b) (hb1 : b ≤ 2147483647) (hT : Tabs w) :
    Calls Tryd.prog 3 #[.int .i32 a, .int .i32 b] w fun e w' => e = .returned (.bool true) ∧ Below w.heap.size w w' := by
  have HT := Lib.hid hT
  obtain ⟨p, ep⟩ : ∃ p, a + b = p := ⟨_, rfl⟩
  obtain ⟨d, ed⟩ : ∃ d, a - b = d := ⟨_, rfl⟩
  obtain ⟨m, em⟩ : ∃ m, a * b = m := ⟨_, rfl⟩
  have hm := mul_bound (a := a) (b := b) (by omega) (by omega)
  rw [em] at hm
  have wp : IntKind.i64.wrap p = p := by rw [IntKind.wrap_i64]; omega
  have wd : IntKind.i64.wrap d = d := by rw [IntKind.wrap_i64]; omega
  have wm : IntKind.i64.wrap m = m := by rw [IntKind.wrap_i64]; omega
  have wa : IntKind.i64.wrap a = a := by rw [IntKind.wrap_i64]; omega
  have wb : IntKind.i64.wrap b = b := by rw [IntKind.wrap_i64]; omega
  have Fa := Lib.hid (fits20 (z := a) (by omega))
  have Fb := Lib.hid (fits20 (z := b) (by omega))
  have Fp := Lib.hid (fits20 (z := p) (by omega))
  have Fd := Lib.hid (fits20 (z := d) (by omega))
  have Fm := Lib.hid (fits20 (z := m) (by omega))
  have CA := Lib.hid (fun W h => from_any a (by omega) (by omega) W h)
  have CB := Lib.hid (fun W h => from_any b (by omega) (by omega) W h)
  have CP := Lib.hid (fun W h => from_any p (by omega) (by omega) W h)
  have CD := Lib.hid (fun W h => from_any d (by omega) (by omega) W h)
  have CM := Lib.hid (fun W h => from_any m (by omega) (by omega) W h)
  have CT := Lib.hid (fun W => to_ok a Fa.out ⟨by omega, by omega⟩ W)
  have EP := Lib.hid ep
  have ED := Lib.hid ed
  have EM := Lib.hid em
  have HDV : Hid (b = 0 ∨ b ≠ 0 ∧ ∃ q r qt rt, a.tdiv b = qt ∧ a.tmod b = rt ∧ IntKind.i64.wrap qt = qt ∧ IntKind.i64.wrap rt = rt ∧ a / b = q ∧ a % b = r ∧ IntKind.i64.wrap q = q ∧ IntKind.i64.wrap r = r ∧ 0 ≤ r ∧ q.natAbs ≤ 2147483649 ∧ r.natAbs ≤ 2147483649 ∧
      ((0 ≤ rt ∧ q = qt ∧ r = rt) ∨ (rt < 0 ∧ 0 < b ∧ qt - 1 = q ∧ rt + b = r) ∨ (rt < 0 ∧ b < 0 ∧ qt + 1 = q ∧ rt - b = r))) := by
    show _ ∨ _
    by_cases h0 : b = 0
    · exact .inl h0
    · right
      have h1 : (a.tmod b).natAbs < b.natAbs := by rw [Int.natAbs_tmod]; exact Nat.mod_lt _ (by omega)
      have h2 : (a.tdiv b).natAbs ≤ a.natAbs := by rw [Int.natAbs_tdiv]; exact Nat.div_le_self _ _
      have h3 := Int.natAbs_ediv_le_natAbs a b
      obtain ⟨_, h4, h5⟩ := ediv_spec a b h0
      refine ⟨h0, _, _, _, _, rfl, rfl, by rw [IntKind.wrap_i64]; omega, by rw [IntKind.wrap_i64]; omega, rfl, rfl, by rw [IntKind.wrap_i64]; omega, by rw [IntKind.wrap_i64]; omega, h4, by omega, by omega, ?_⟩
      rcases (show 0 ≤ a.tmod b ∨ (a.tmod b < 0 ∧ 0 < b) ∨ (a.tmod b < 0 ∧ b < 0) by omega) with h | ⟨h, k⟩ | ⟨h, k⟩
      · obtain ⟨e1, e2⟩ := ediv_tdiv0 h0 h
        exact .inl ⟨h, e1, e2⟩
      · obtain ⟨e1, e2⟩ := ediv_tdiv1 k h
        exact .inr (.inl ⟨h, k, e1.symm, e2.symm⟩)
      · obtain ⟨e1, e2⟩ := ediv_tdiv2 k h
        exact .inr (.inr ⟨h, k, e1.symm, e2.symm⟩)
  have HO : Hid ((a < b ∧ cmpI a b = -1) ∨ (a = b ∧ cmpI a b = 0) ∨ (b < a ∧ cmpI a b = 1)) := by
    show _ ∨ _
    rcases Int.lt_trichotomy a b with h | h | h
    · exact .inl ⟨h, by unfold cmpI; rw [if_pos h]⟩
    · exact .inr (.inl ⟨h, by unfold cmpI; rw [if_neg (by omega), if_neg (by omega)]⟩)
    · exact .inr (.inr ⟨h, by unfold cmpI; rw [if_neg (by omega), if_pos h]⟩)
  clear hm hT
  rcases HO.out with ⟨ho, ko⟩ | ⟨ho, ko⟩ | ⟨ho, ko⟩
  · have KO := Lib.hid ko
    have ho2 : ¬ b < a := by omega
    clear HO ko
    rcases HDV.out with hb | ⟨hb, q, r, qt, rt, eqt, ert, wqt, wrt, eq, er, wq, wr, hr0, hqb, hrb, hc⟩
    · have CZ : Hid (∀ W, Calls Tryd.prog 18 #[.string (intB a), .string (intB b)] W fun e w' => e = .returned (.tuple #[.string ⟨#[]⟩, .string ⟨#[]⟩, .int .i64 30]) ∧ Below W.heap.size W w') := by
        intro W; rw [hb]; exact div_zero a Fa.out W
      have hb2 : (b == 0) = true := by rw [hb]; rfl
      have HB0 := Lib.hid hb
      clear HDV hb
      go_enter Tryd.func3, Tryd.ntmps3
      go_wp2_with fail
      refine (sane_any w).mono ?_
      rintro e w1 ⟨rfl, hB⟩
      have HB1 := Lib.hid hB
      clear hB
      go_wp2_with fail
      refine (CA.out w1 (HT.out.via HB1.out)).mono ?_
      rintro e w2 ⟨rfl, hB⟩
      have HB2 := Lib.hid (belowVia hB HB1.out)
      clear hB HB1
      go_wp2_with fail
      refine (CB.out w2 (HT.out.via HB2.out)).mono ?_
      rintro e w3 ⟨rfl, hB⟩
      have HB3 := Lib.hid (belowVia hB HB2.out)
      clear hB HB2
      go_wp2_with fail
      refine (CT.out w3).mono ?_
      rintro e w4 ⟨rfl, hB⟩
      have HB4 := Lib.hid (belowVia hB HB3.out)
      clear hB HB3
      go_wp2_with fail
      refine (c_add api a b p w4 Fa.out Fb.out Fp.out EP.out).mono ?_
      rintro e w5 ⟨rfl, hB⟩
      have HB5 := Lib.hid (belowVia hB HB4.out)
      clear hB HB4
      go_wp2_with fail
      refine (c_sub api a b d w5 Fa.out Fb.out Fd.out ED.out).mono ?_
      rintro e w6 ⟨rfl, hB⟩
      have HB6 := Lib.hid (belowVia hB HB5.out)
      clear hB HB5
      go_wp2_with fail
      refine (c_mul api a b m w6 Fa.out Fb.out Fm.out EM.out).mono ?_
      rintro e w7 ⟨rfl, hB⟩
      have HB7 := Lib.hid (belowVia hB HB6.out)
      clear hB HB6
      go_wp2_with fail
      refine (CP.out w7 (HT.out.via HB7.out)).mono ?_
      rintro e w8 ⟨rfl, hB⟩
      have HB8 := Lib.hid (belowVia hB HB7.out)
      clear hB HB7
      go_wp2_with fail
      refine (CD.out w8 (HT.out.via HB8.out)).mono ?_
      rintro e w9 ⟨rfl, hB⟩
      have HB9 := Lib.hid (belowVia hB HB8.out)
      clear hB HB8
      go_wp2_with fail
      refine (CM.out w9 (HT.out.via HB9.out)).mono ?_
      rintro e w10 ⟨rfl, hB⟩
      have HB10 := Lib.hid (belowVia hB HB9.out)
      clear hB HB9
      go_wp2_with fail
      refine (c_cmp api a b _ w10 Fa.out Fb.out KO.out).mono ?_
      rintro e w11 ⟨rfl, hB⟩
      have HB11 := Lib.hid (belowVia hB HB10.out)
      clear hB HB10
      go_wp2_with fail
      refine (CZ.out w11).mono ?_
      rintro e w12 ⟨rfl, hB⟩
      have HB12 := Lib.hid (belowVia hB HB11.out)
      clear hB HB11
      go_wp2_with fail
      go_ret
      exact ⟨rfl, HB12.out⟩
    · have CV := Lib.hid (fun W => c_div api a b q r W Fa.out Fb.out hb eq er)
      have CQ := Lib.hid (fun W h => from_any q (by omega) (by omega) W h)
      have CR := Lib.hid (fun W h => from_any r (by omega) (by omega) W h)
      have hb2 : (b == 0) = false := by simpa using hb
      clear HDV eq er hqb hrb
      rcases hc with ⟨h1, rfl, rfl⟩ | ⟨h1, h2, h3, h4⟩ | ⟨h1, h2, h3, h4⟩
      · have h2 : ¬ r < 0 := by omega
        clear h1
        go_enter Tryd.func3, Tryd.ntmps3
        go_wp2_with fail
        refine (sane_any w).mono ?_
        rintro e w1 ⟨rfl, hB⟩
        have HB1 := Lib.hid hB
        clear hB
        go_wp2_with fail
        refine (CA.out w1 (HT.out.via HB1.out)).mono ?_
        rintro e w2 ⟨rfl, hB⟩
        have HB2 := Lib.hid (belowVia hB HB1.out)
        clear hB HB1
        go_wp2_with fail
        refine (CB.out w2 (HT.out.via HB2.out)).mono ?_
        rintro e w3 ⟨rfl, hB⟩
        have HB3 := Lib.hid (belowVia hB HB2.out)
        clear hB HB2
        go_wp2_with fail
        refine (CT.out w3).mono ?_
        rintro e w4 ⟨rfl, hB⟩
        have HB4 := Lib.hid (belowVia hB HB3.out)
        clear hB HB3
        go_wp2_with fail
        refine (c_add api a b p w4 Fa.out Fb.out Fp.out EP.out).mono ?_
        rintro e w5 ⟨rfl, hB⟩
        have HB5 := Lib.hid (belowVia hB HB4.out)
        clear hB HB4
        go_wp2_with fail
        refine (c_sub api a b d w5 Fa.out Fb.out Fd.out ED.out).mono ?_
        rintro e w6 ⟨rfl, hB⟩
        have HB6 := Lib.hid (belowVia hB HB5.out)
        clear hB HB5
        go_wp2_with fail
        refine (c_mul api a b m w6 Fa.out Fb.out Fm.out EM.out).mono ?_
        rintro e w7 ⟨rfl, hB⟩
        have HB7 := Lib.hid (belowVia hB HB6.out)
        clear hB HB6
        go_wp2_with fail
        refine (CP.out w7 (HT.out.via HB7.out)).mono ?_
        rintro e w8 ⟨rfl, hB⟩
        have HB8 := Lib.hid (belowVia hB HB7.out)
        clear hB HB7
        go_wp2_with fail
        refine (CD.out w8 (HT.out.via HB8.out)).mono ?_
        rintro e w9 ⟨rfl, hB⟩
        have HB9 := Lib.hid (belowVia hB HB8.out)
        clear hB HB8
        go_wp2_with fail
        refine (CM.out w9 (HT.out.via HB9.out)).mono ?_
        rintro e w10 ⟨rfl, hB⟩
        have HB10 := Lib.hid (belowVia hB HB9.out)
        clear hB HB9
        go_wp2_with fail
        refine (c_cmp api a b _ w10 Fa.out Fb.out KO.out).mono ?_
        rintro e w11 ⟨rfl, hB⟩
        have HB11 := Lib.hid (belowVia hB HB10.out)
        clear hB HB10
        go_wp2_with fail
        refine (CV.out w11).mono ?_
        rintro e w12 ⟨rfl, hB⟩
        have HB12 := Lib.hid (belowVia hB HB11.out)
        clear hB HB11
        go_wp2_with fail
        refine (CQ.out w12 (HT.out.via HB12.out)).mono ?_
        rintro e w13 ⟨rfl, hB⟩
        have HB13 := Lib.hid (belowVia hB HB12.out)
        clear hB HB12
        go_wp2_with fail
        refine (CR.out w13 (HT.out.via HB13.out)).mono ?_
        rintro e w14 ⟨rfl, hB⟩
        have HB14 := Lib.hid (belowVia hB HB13.out)
        clear hB HB13
        go_wp2_with fail
        go_ret
        exact ⟨rfl, HB14.out⟩
      · have h5 : ¬ r < 0 := by omega
        go_enter Tryd.func3, Tryd.ntmps3
        go_wp2_with fail
        refine (sane_any w).mono ?_
        rintro e w1 ⟨rfl, hB⟩
        have HB1 := Lib.hid hB
        clear hB
        go_wp2_with fail
        refine (CA.out w1 (HT.out.via HB1.out)).mono ?_
        rintro e w2 ⟨rfl, hB⟩
        have HB2 := Lib.hid (belowVia hB HB1.out)
        clear hB HB1
        go_wp2_with fail
        refine (CB.out w2 (HT.out.via HB2.out)).mono ?_
        rintro e w3 ⟨rfl, hB⟩
        have HB3 := Lib.hid (belowVia hB HB2.out)
        clear hB HB2
        go_wp2_with fail
        refine (CT.out w3).mono ?_
        rintro e w4 ⟨rfl, hB⟩
        have HB4 := Lib.hid (belowVia hB HB3.out)
        clear hB HB3
        go_wp2_with fail
        refine (c_add api a b p w4 Fa.out Fb.out Fp.out EP.out).mono ?_
        rintro e w5 ⟨rfl, hB⟩
        have HB5 := Lib.hid (belowVia hB HB4.out)
        clear hB HB4
        go_wp2_with fail
        refine (c_sub api a b d w5 Fa.out Fb.out Fd.out ED.out).mono ?_
        rintro e w6 ⟨rfl, hB⟩
        have HB6 := Lib.hid (belowVia hB HB5.out)
        clear hB HB5
        go_wp2_with fail
        refine (c_mul api a b m w6 Fa.out Fb.out Fm.out EM.out).mono ?_
        rintro e w7 ⟨rfl, hB⟩
        have HB7 := Lib.hid (belowVia hB HB6.out)
        clear hB HB6
        go_wp2_with fail
        refine (CP.out w7 (HT.out.via HB7.out)).mono ?_
        rintro e w8 ⟨rfl, hB⟩
        have HB8 := Lib.hid (belowVia hB HB7.out)
        clear hB HB7
        go_wp2_with fail
        refine (CD.out w8 (HT.out.via HB8.out)).mono ?_
        rintro e w9 ⟨rfl, hB⟩
        have HB9 := Lib.hid (belowVia hB HB8.out)
        clear hB HB8
        go_wp2_with fail
        refine (CM.out w9 (HT.out.via HB9.out)).mono ?_
        rintro e w10 ⟨rfl, hB⟩
        have HB10 := Lib.hid (belowVia hB HB9.out)
        clear hB HB9
        go_wp2_with fail
        refine (c_cmp api a b _ w10 Fa.out Fb.out KO.out).mono ?_
        rintro e w11 ⟨rfl, hB⟩
        have HB11 := Lib.hid (belowVia hB HB10.out)
        clear hB HB10
        go_wp2_with fail
        refine (CV.out w11).mono ?_
        rintro e w12 ⟨rfl, hB⟩
        have HB12 := Lib.hid (belowVia hB HB11.out)
        clear hB HB11
        go_wp2_with fail
        refine (CQ.out w12 (HT.out.via HB12.out)).mono ?_
        rintro e w13 ⟨rfl, hB⟩
        have HB13 := Lib.hid (belowVia hB HB12.out)
        clear hB HB12
        go_wp2_with fail
        refine (CR.out w13 (HT.out.via HB13.out)).mono ?_
        rintro e w14 ⟨rfl, hB⟩
        have HB14 := Lib.hid (belowVia hB HB13.out)
        clear hB HB13
        go_wp2_with fail
        go_ret
        exact ⟨rfl, HB14.out⟩
      · have h5 : ¬ 0 < b := by omega
        have h6 : ¬ r < 0 := by omega
        go_enter Tryd.func3, Tryd.ntmps3
        go_wp2_with fail
        refine (sane_any w).mono ?_
        rintro e w1 ⟨rfl, hB⟩
        have HB1 := Lib.hid hB
        clear hB
        go_wp2_with fail
        refine (CA.out w1 (HT.out.via HB1.out)).mono ?_
        rintro e w2 ⟨rfl, hB⟩
        have HB2 := Lib.hid (belowVia hB HB1.out)
        clear hB HB1
        go_wp2_with fail
        refine (CB.out w2 (HT.out.via HB2.out)).mono ?_
        rintro e w3 ⟨rfl, hB⟩
        have HB3 := Lib.hid (belowVia hB HB2.out)
        clear hB HB2
        go_wp2_with fail
        refine (CT.out w3).mono ?_
        rintro e w4 ⟨rfl, hB⟩
        have HB4 := Lib.hid (belowVia hB HB3.out)
        clear hB HB3
        go_wp2_with fail
        refine (c_add api a b p w4 Fa.out Fb.out Fp.out EP.out).mono ?_
        rintro e w5 ⟨rfl, hB⟩
        have HB5 := Lib.hid (belowVia hB HB4.out)
        clear hB HB4
        go_wp2_with fail
        refine (c_sub api a b d w5 Fa.out Fb.out Fd.out ED.out).mono ?_
        rintro e w6 ⟨rfl, hB⟩
        have HB6 := Lib.hid (belowVia hB HB5.out)
        clear hB HB5
        go_wp2_with fail
        refine (c_mul api a b m w6 Fa.out Fb.out Fm.out EM.out).mono ?_
        rintro e w7 ⟨rfl, hB⟩
        have HB7 := Lib.hid (belowVia hB HB6.out)
        clear hB HB6
        go_wp2_with fail
        refine (CP.out w7 (HT.out.via HB7.out)).mono ?_
        rintro e w8 ⟨rfl, hB⟩
        have HB8 := Lib.hid (belowVia hB HB7.out)
        clear hB HB7
        go_wp2_with fail
        refine (CD.out w8 (HT.out.via HB8.out)).mono ?_
        rintro e w9 ⟨rfl, hB⟩
        have HB9 := Lib.hid (belowVia hB HB8.out)
        clear hB HB8
        go_wp2_with fail
        refine (CM.out w9 (HT.out.via HB9.out)).mono ?_
        rintro e w10 ⟨rfl, hB⟩
        have HB10 := Lib.hid (belowVia hB HB9.out)
        clear hB HB9
        go_wp2_with fail
        refine (c_cmp api a b _ w10 Fa.out Fb.out KO.out).mono ?_
        rintro e w11 ⟨rfl, hB⟩
        have HB11 := Lib.hid (belowVia hB HB10.out)
        clear hB HB10
        go_wp2_with fail
        refine (CV.out w11).mono ?_
        rintro e w12 ⟨rfl, hB⟩
        have HB12 := Lib.hid (belowVia hB HB11.out)
        clear hB HB11
        go_wp2_with fail
        refine (CQ.out w12 (HT.out.via HB12.out)).mono ?_
        rintro e w13 ⟨rfl, hB⟩
        have HB13 := Lib.hid (belowVia hB HB12.out)
        clear hB HB12
        go_wp2_with fail
        refine (CR.out w13 (HT.out.via HB13.out)).mono ?_
        rintro e w14 ⟨rfl, hB⟩
        have HB14 := Lib.hid (belowVia hB HB13.out)
        clear hB HB13
        go_wp2_with fail
        go_ret
        exact ⟨rfl, HB14.out⟩
  · have KO := Lib.hid ko
    have HEQ := Lib.hid ho
    have ho1 : ¬ a < b := by omega
    have ho2 : ¬ b < a := by omega
    clear HO ko ho
    rcases HDV.out with hb | ⟨hb, q, r, qt, rt, eqt, ert, wqt, wrt, eq, er, wq, wr, hr0, hqb, hrb, hc⟩
    · have CZ : Hid (∀ W, Calls Tryd.prog 18 #[.string (intB a), .string (intB b)] W fun e w' => e = .returned (.tuple #[.string ⟨#[]⟩, .string ⟨#[]⟩, .int .i64 30]) ∧ Below W.heap.size W w') := by
        intro W; rw [hb]; exact div_zero a Fa.out W
      have hb2 : (b == 0) = true := by rw [hb]; rfl
      have HB0 := Lib.hid hb
      clear HDV hb
      go_enter Tryd.func3, Tryd.ntmps3
      go_wp2_with fail
      refine (sane_any w).mono ?_
      rintro e w1 ⟨rfl, hB⟩
      have HB1 := Lib.hid hB
      clear hB
      go_wp2_with fail
      refine (CA.out w1 (HT.out.via HB1.out)).mono ?_
      rintro e w2 ⟨rfl, hB⟩
      have HB2 := Lib.hid (belowVia hB HB1.out)
      clear hB HB1
      go_wp2_with fail
      refine (CB.out w2 (HT.out.via HB2.out)).mono ?_
      rintro e w3 ⟨rfl, hB⟩
      have HB3 := Lib.hid (belowVia hB HB2.out)
      clear hB HB2
      go_wp2_with fail
      refine (CT.out w3).mono ?_
      rintro e w4 ⟨rfl, hB⟩
      have HB4 := Lib.hid (belowVia hB HB3.out)
      clear hB HB3
      go_wp2_with fail
      refine (c_add api a b p w4 Fa.out Fb.out Fp.out EP.out).mono ?_
      rintro e w5 ⟨rfl, hB⟩
      have HB5 := Lib.hid (belowVia hB HB4.out)
      clear hB HB4
      go_wp2_with fail
      refine (c_sub api a b d w5 Fa.out Fb.out Fd.out ED.out).mono ?_
      rintro e w6 ⟨rfl, hB⟩
      have HB6 := Lib.hid (belowVia hB HB5.out)
      clear hB HB5
      go_wp2_with fail
      refine (c_mul api a b m w6 Fa.out Fb.out Fm.out EM.out).mono ?_
      rintro e w7 ⟨rfl, hB⟩
      have HB7 := Lib.hid (belowVia hB HB6.out)
      clear hB HB6
      go_wp2_with fail
      refine (CP.out w7 (HT.out.via HB7.out)).mono ?_
      rintro e w8 ⟨rfl, hB⟩
      have HB8 := Lib.hid (belowVia hB HB7.out)
      clear hB HB7
      go_wp2_with fail
      refine (CD.out w8 (HT.out.via HB8.out)).mono ?_
      rintro e w9 ⟨rfl, hB⟩
      have HB9 := Lib.hid (belowVia hB HB8.out)
      clear hB HB8
      go_wp2_with fail
      refine (CM.out w9 (HT.out.via HB9.out)).mono ?_
      rintro e w10 ⟨rfl, hB⟩
      have HB10 := Lib.hid (belowVia hB HB9.out)
      clear hB HB9
      go_wp2_with fail
      refine (c_cmp api a b _ w10 Fa.out Fb.out KO.out).mono ?_
      rintro e w11 ⟨rfl, hB⟩
      have HB11 := Lib.hid (belowVia hB HB10.out)
      clear hB HB10
      go_wp2_with fail
      refine (CZ.out w11).mono ?_
      rintro e w12 ⟨rfl, hB⟩
      have HB12 := Lib.hid (belowVia hB HB11.out)
      clear hB HB11
      go_wp2_with fail
      go_ret
      exact ⟨rfl, HB12.out⟩
    · have CV := Lib.hid (fun W => c_div api a b q r W Fa.out Fb.out hb eq er)
      have CQ := Lib.hid (fun W h => from_any q (by omega) (by omega) W h)
      have CR := Lib.hid (fun W h => from_any r (by omega) (by omega) W h)
      have hb2 : (b == 0) = false := by simpa using hb
      clear HDV eq er hqb hrb
      obtain ⟨h1, rfl, rfl⟩ : 0 ≤ rt ∧ q = qt ∧ r = rt := by
        rcases hc with h | ⟨h, _⟩ | ⟨h, _⟩
        · exact h
        · exfalso; rw [← ert, HEQ.out, Int.tmod_self] at h; omega
        · exfalso; rw [← ert, HEQ.out, Int.tmod_self] at h; omega
      have h2 : ¬ r < 0 := by omega
      clear hc h1
      go_enter Tryd.func3, Tryd.ntmps3
      go_wp2_with fail
      refine (sane_any w).mono ?_
      rintro e w1 ⟨rfl, hB⟩
      have HB1 := Lib.hid hB
      clear hB
      go_wp2_with fail
      refine (CA.out w1 (HT.out.via HB1.out)).mono ?_
      rintro e w2 ⟨rfl, hB⟩
      have HB2 := Lib.hid (belowVia hB HB1.out)
      clear hB HB1
      go_wp2_with fail
      refine (CB.out w2 (HT.out.via HB2.out)).mono ?_
      rintro e w3 ⟨rfl, hB⟩
      have HB3 := Lib.hid (belowVia hB HB2.out)
      clear hB HB2
      go_wp2_with fail
      refine (CT.out w3).mono ?_
      rintro e w4 ⟨rfl, hB⟩
      have HB4 := Lib.hid (belowVia hB HB3.out)
      clear hB HB3
      go_wp2_with fail
      refine (c_add api a b p w4 Fa.out Fb.out Fp.out EP.out).mono ?_
      rintro e w5 ⟨rfl, hB⟩
      have HB5 := Lib.hid (belowVia hB HB4.out)
      clear hB HB4
      go_wp2_with fail
      refine (c_sub api a b d w5 Fa.out Fb.out Fd.out ED.out).mono ?_
      rintro e w6 ⟨rfl, hB⟩
      have HB6 := Lib.hid (belowVia hB HB5.out)
      clear hB HB5
      go_wp2_with fail
      refine (c_mul api a b m w6 Fa.out Fb.out Fm.out EM.out).mono ?_
      rintro e w7 ⟨rfl, hB⟩
      have HB7 := Lib.hid (belowVia hB HB6.out)
      clear hB HB6
      go_wp2_with fail
      refine (CP.out w7 (HT.out.via HB7.out)).mono ?_
      rintro e w8 ⟨rfl, hB⟩
      have HB8 := Lib.hid (belowVia hB HB7.out)
      clear hB HB7
      go_wp2_with fail
      refine (CD.out w8 (HT.out.via HB8.out)).mono ?_
      rintro e w9 ⟨rfl, hB⟩
      have HB9 := Lib.hid (belowVia hB HB8.out)
      clear hB HB8
      go_wp2_with fail
      refine (CM.out w9 (HT.out.via HB9.out)).mono ?_
      rintro e w10 ⟨rfl, hB⟩
      have HB10 := Lib.hid (belowVia hB HB9.out)
      clear hB HB9
      go_wp2_with fail
      refine (c_cmp api a b _ w10 Fa.out Fb.out KO.out).mono ?_
      rintro e w11 ⟨rfl, hB⟩
      have HB11 := Lib.hid (belowVia hB HB10.out)
      clear hB HB10
      go_wp2_with fail
      refine (CV.out w11).mono ?_
      rintro e w12 ⟨rfl, hB⟩
      have HB12 := Lib.hid (belowVia hB HB11.out)
      clear hB HB11
      go_wp2_with fail
      refine (CQ.out w12 (HT.out.via HB12.out)).mono ?_
      rintro e w13 ⟨rfl, hB⟩
      have HB13 := Lib.hid (belowVia hB HB12.out)
      clear hB HB12
      go_wp2_with fail
      refine (CR.out w13 (HT.out.via HB13.out)).mono ?_
      rintro e w14 ⟨rfl, hB⟩
      have HB14 := Lib.hid (belowVia hB HB13.out)
      clear hB HB13
      go_wp2_with fail
      go_ret
      exact ⟨rfl, HB14.out⟩
  · have KO := Lib.hid ko
    have ho2 : ¬ a < b := by omega
    clear HO ko
    rcases HDV.out with hb | ⟨hb, q, r, qt, rt, eqt, ert, wqt, wrt, eq, er, wq, wr, hr0, hqb, hrb, hc⟩
    · have CZ : Hid (∀ W, Calls Tryd.prog 18 #[.string (intB a), .string (intB b)] W fun e w' => e = .returned (.tuple #[.string ⟨#[]⟩, .string ⟨#[]⟩, .int .i64 30]) ∧ Below W.heap.size W w') := by
        intro W; rw [hb]; exact div_zero a Fa.out W
      have hb2 : (b == 0) = true := by rw [hb]; rfl
      have HB0 := Lib.hid hb
      clear HDV hb
      go_enter Tryd.func3, Tryd.ntmps3
      go_wp2_with fail
      refine (sane_any w).mono ?_
      rintro e w1 ⟨rfl, hB⟩
      have HB1 := Lib.hid hB
      clear hB
      go_wp2_with fail
      refine (CA.out w1 (HT.out.via HB1.out)).mono ?_
      rintro e w2 ⟨rfl, hB⟩
      have HB2 := Lib.hid (belowVia hB HB1.out)
      clear hB HB1
      go_wp2_with fail
      refine (CB.out w2 (HT.out.via HB2.out)).mono ?_
      rintro e w3 ⟨rfl, hB⟩
      have HB3 := Lib.hid (belowVia hB HB2.out)
      clear hB HB2
      go_wp2_with fail
      refine (CT.out w3).mono ?_
      rintro e w4 ⟨rfl, hB⟩
      have HB4 := Lib.hid (belowVia hB HB3.out)
      clear hB HB3
      go_wp2_with fail
      refine (c_add api a b p w4 Fa.out Fb.out Fp.out EP.out).mono ?_
      rintro e w5 ⟨rfl, hB⟩
      have HB5 := Lib.hid (belowVia hB HB4.out)
      clear hB HB4
      go_wp2_with fail
      refine (c_sub api a b d w5 Fa.out Fb.out Fd.out ED.out).mono ?_
      rintro e w6 ⟨rfl, hB⟩
      have HB6 := Lib.hid (belowVia hB HB5.out)
      clear hB HB5
      go_wp2_with fail
      refine (c_mul api a b m w6 Fa.out Fb.out Fm.out EM.out).mono ?_
      rintro e w7 ⟨rfl, hB⟩
      have HB7 := Lib.hid (belowVia hB HB6.out)
      clear hB HB6
      go_wp2_with fail
      refine (CP.out w7 (HT.out.via HB7.out)).mono ?_
      rintro e w8 ⟨rfl, hB⟩
      have HB8 := Lib.hid (belowVia hB HB7.out)
      clear hB HB7
      go_wp2_with fail
      refine (CD.out w8 (HT.out.via HB8.out)).mono ?_
      rintro e w9 ⟨rfl, hB⟩
      have HB9 := Lib.hid (belowVia hB HB8.out)
      clear hB HB8
      go_wp2_with fail
      refine (CM.out w9 (HT.out.via HB9.out)).mono ?_
      rintro e w10 ⟨rfl, hB⟩
      have HB10 := Lib.hid (belowVia hB HB9.out)
      clear hB HB9
      go_wp2_with fail
      refine (c_cmp api a b _ w10 Fa.out Fb.out KO.out).mono ?_
      rintro e w11 ⟨rfl, hB⟩
      have HB11 := Lib.hid (belowVia hB HB10.out)
      clear hB HB10
      go_wp2_with fail
      refine (CZ.out w11).mono ?_
      rintro e w12 ⟨rfl, hB⟩
      have HB12 := Lib.hid (belowVia hB HB11.out)
      clear hB HB11
      go_wp2_with fail
      go_ret
      exact ⟨rfl, HB12.out⟩
    · have CV := Lib.hid (fun W => c_div api a b q r W Fa.out Fb.out hb eq er)
      have CQ := Lib.hid (fun W h => from_any q (by omega) (by omega) W h)
      have CR := Lib.hid (fun W h => from_any r (by omega) (by omega) W h)
      have hb2 : (b == 0) = false := by simpa using hb
      clear HDV eq er hqb hrb
      rcases hc with ⟨h1, rfl, rfl⟩ | ⟨h1, h2, h3, h4⟩ | ⟨h1, h2, h3, h4⟩
      · have h2 : ¬ r < 0 := by omega
        clear h1
        go_enter Tryd.func3, Tryd.ntmps3
        go_wp2_with fail
        refine (sane_any w).mono ?_
        rintro e w1 ⟨rfl, hB⟩
        have HB1 := Lib.hid hB
        clear hB
        go_wp2_with fail
        refine (CA.out w1 (HT.out.via HB1.out)).mono ?_
        rintro e w2 ⟨rfl, hB⟩
        have HB2 := Lib.hid (belowVia hB HB1.out)
        clear hB HB1
        go_wp2_with fail
        refine (CB.out w2 (HT.out.via HB2.out)).mono ?_
        rintro e w3 ⟨rfl, hB⟩
        have HB3 := Lib.hid (belowVia hB HB2.out)
        clear hB HB2
        go_wp2_with fail
        refine (CT.out w3).mono ?_
        rintro e w4 ⟨rfl, hB⟩
        have HB4 := Lib.hid (belowVia hB HB3.out)
        clear hB HB3
        go_wp2_with fail
        refine (c_add api a b p w4 Fa.out Fb.out Fp.out EP.out).mono ?_
        rintro e w5 ⟨rfl, hB⟩
        have HB5 := Lib.hid (belowVia hB HB4.out)
        clear hB HB4
        go_wp2_with fail
        refine (c_sub api a b d w5 Fa.out Fb.out Fd.out ED.out).mono ?_
        rintro e w6 ⟨rfl, hB⟩
        have HB6 := Lib.hid (belowVia hB HB5.out)
        clear hB HB5
        go_wp2_with fail
        refine (c_mul api a b m w6 Fa.out Fb.out Fm.out EM.out).mono ?_
        rintro e w7 ⟨rfl, hB⟩
        have HB7 := Lib.hid (belowVia hB HB6.out)
        clear hB HB6
        go_wp2_with fail
        refine (CP.out w7 (HT.out.via HB7.out)).mono ?_
        rintro e w8 ⟨rfl, hB⟩
        have HB8 := Lib.hid (belowVia hB HB7.out)
        clear hB HB7
        go_wp2_with fail
        refine (CD.out w8 (HT.out.via HB8.out)).mono ?_
        rintro e w9 ⟨rfl, hB⟩
        have HB9 := Lib.hid (belowVia hB HB8.out)
        clear hB HB8
        go_wp2_with fail
        refine (CM.out w9 (HT.out.via HB9.out)).mono ?_
        rintro e w10 ⟨rfl, hB⟩
        have HB10 := Lib.hid (belowVia hB HB9.out)
        clear hB HB9
        go_wp2_with fail
        refine (c_cmp api a b _ w10 Fa.out Fb.out KO.out).mono ?_
        rintro e w11 ⟨rfl, hB⟩
        have HB11 := Lib.hid (belowVia hB HB10.out)
        clear hB HB10
        go_wp2_with fail
        refine (CV.out w11).mono ?_
        rintro e w12 ⟨rfl, hB⟩
        have HB12 := Lib.hid (belowVia hB HB11.out)
        clear hB HB11
        go_wp2_with fail
        refine (CQ.out w12 (HT.out.via HB12.out)).mono ?_
        rintro e w13 ⟨rfl, hB⟩
        have HB13 := Lib.hid (belowVia hB HB12.out)
        clear hB HB12
        go_wp2_with fail
        refine (CR.out w13 (HT.out.via HB13.out)).mono ?_
        rintro e w14 ⟨rfl, hB⟩
        have HB14 := Lib.hid (belowVia hB HB13.out)
        clear hB HB13
        go_wp2_with fail
        go_ret
        exact ⟨rfl, HB14.out⟩
      · have h5 : ¬ r < 0 := by omega
        go_enter Tryd.func3, Tryd.ntmps3
        go_wp2_with fail
        refine (sane_any w).mono ?_
        rintro e w1 ⟨rfl, hB⟩
        have HB1 := Lib.hid hB
        clear hB
        go_wp2_with fail
        refine (CA.out w1 (HT.out.via HB1.out)).mono ?_
        rintro e w2 ⟨rfl, hB⟩
        have HB2 := Lib.hid (belowVia hB HB1.out)
        clear hB HB1
        go_wp2_with fail
        refine (CB.out w2 (HT.out.via HB2.out)).mono ?_
        rintro e w3 ⟨rfl, hB⟩
        have HB3 := Lib.hid (belowVia hB HB2.out)
        clear hB HB2
        go_wp2_with fail
        refine (CT.out w3).mono ?_
        rintro e w4 ⟨rfl, hB⟩
        have HB4 := Lib.hid (belowVia hB HB3.out)
        clear hB HB3
        go_wp2_with fail
        refine (c_add api a b p w4 Fa.out Fb.out Fp.out EP.out).mono ?_
        rintro e w5 ⟨rfl, hB⟩
        have HB5 := Lib.hid (belowVia hB HB4.out)
        clear hB HB4
        go_wp2_with fail
        refine (c_sub api a b d w5 Fa.out Fb.out Fd.out ED.out).mono ?_
        rintro e w6 ⟨rfl, hB⟩
        have HB6 := Lib.hid (belowVia hB HB5.out)
        clear hB HB5
        go_wp2_with fail
        refine (c_mul api a b m w6 Fa.out Fb.out Fm.out EM.out).mono ?_
        rintro e w7 ⟨rfl, hB⟩
        have HB7 := Lib.hid (belowVia hB HB6.out)
        clear hB HB6
        go_wp2_with fail
        refine (CP.out w7 (HT.out.via HB7.out)).mono ?_
        rintro e w8 ⟨rfl, hB⟩
        have HB8 := Lib.hid (belowVia hB HB7.out)
        clear hB HB7
        go_wp2_with fail
        refine (CD.out w8 (HT.out.via HB8.out)).mono ?_
        rintro e w9 ⟨rfl, hB⟩
        have HB9 := Lib.hid (belowVia hB HB8.out)
        clear hB HB8
        go_wp2_with fail
        refine (CM.out w9 (HT.out.via HB9.out)).mono ?_
        rintro e w10 ⟨rfl, hB⟩
        have HB10 := Lib.hid (belowVia hB HB9.out)
        clear hB HB9
        go_wp2_with fail
        refine (c_cmp api a b _ w10 Fa.out Fb.out KO.out).mono ?_
        rintro e w11 ⟨rfl, hB⟩
        have HB11 := Lib.hid (belowVia hB HB10.out)
        clear hB HB10
        go_wp2_with fail
        refine (CV.out w11).mono ?_
        rintro e w12 ⟨rfl, hB⟩
        have HB12 := Lib.hid (belowVia hB HB11.out)
        clear hB HB11
        go_wp2_with fail
        refine (CQ.out w12 (HT.out.via HB12.out)).mono ?_
        rintro e w13 ⟨rfl, hB⟩
        have HB13 := Lib.hid (belowVia hB HB12.out)
        clear hB HB12
        go_wp2_with fail
        refine (CR.out w13 (HT.out.via HB13.out)).mono ?_
        rintro e w14 ⟨rfl, hB⟩
        have HB14 := Lib.hid (belowVia hB HB13.out)
        clear hB HB13
        go_wp2_with fail
        go_ret
        exact ⟨rfl, HB14.out⟩
      · have h5 : ¬ 0 < b := by omega
        have h6 : ¬ r < 0 := by omega
        go_enter Tryd.func3, Tryd.ntmps3
        go_wp2_with fail
        refine (sane_any w).mono ?_
        rintro e w1 ⟨rfl, hB⟩
        have HB1 := Lib.hid hB
        clear hB
        go_wp2_with fail
        refine (CA.out w1 (HT.out.via HB1.out)).mono ?_
        rintro e w2 ⟨rfl, hB⟩
        have HB2 := Lib.hid (belowVia hB HB1.out)
        clear hB HB1
        go_wp2_with fail
        refine (CB.out w2 (HT.out.via HB2.out)).mono ?_
        rintro e w3 ⟨rfl, hB⟩
        have HB3 := Lib.hid (belowVia hB HB2.out)
        clear hB HB2
        go_wp2_with fail
        refine (CT.out w3).mono ?_
        rintro e w4 ⟨rfl, hB⟩
        have HB4 := Lib.hid (belowVia hB HB3.out)
        clear hB HB3
        go_wp2_with fail
        refine (c_add api a b p w4 Fa.out Fb.out Fp.out EP.out).mono ?_
        rintro e w5 ⟨rfl, hB⟩
        have HB5 := Lib.hid (belowVia hB HB4.out)
        clear hB HB4
        go_wp2_with fail
        refine (c_sub api a b d w5 Fa.out Fb.out Fd.out ED.out).mono ?_
        rintro e w6 ⟨rfl, hB⟩
        have HB6 := Lib.hid (belowVia hB HB5.out)
        clear hB HB5
        go_wp2_with fail
        refine (c_mul api a b m w6 Fa.out Fb.out Fm.out EM.out).mono ?_
        rintro e w7 ⟨rfl, hB⟩
        have HB7 := Lib.hid (belowVia hB HB6.out)
        clear hB HB6
        go_wp2_with fail
        refine (CP.out w7 (HT.out.via HB7.out)).mono ?_
        rintro e w8 ⟨rfl, hB⟩
        have HB8 := Lib.hid (belowVia hB HB7.out)
        clear hB HB7
        go_wp2_with fail
        refine (CD.out w8 (HT.out.via HB8.out)).mono ?_
        rintro e w9 ⟨rfl, hB⟩
        have HB9 := Lib.hid (belowVia hB HB8.out)
        clear hB HB8
        go_wp2_with fail
        refine (CM.out w9 (HT.out.via HB9.out)).mono ?_
        rintro e w10 ⟨rfl, hB⟩
        have HB10 := Lib.hid (belowVia hB HB9.out)
        clear hB HB9
        go_wp2_with fail
        refine (c_cmp api a b _ w10 Fa.out Fb.out KO.out).mono ?_
        rintro e w11 ⟨rfl, hB⟩
        have HB11 := Lib.hid (belowVia hB HB10.out)
        clear hB HB10
        go_wp2_with fail
        refine (CV.out w11).mono ?_
        rintro e w12 ⟨rfl, hB⟩
        have HB12 := Lib.hid (belowVia hB HB11.out)
        clear hB HB11
        go_wp2_with fail
        refine (CQ.out w12 (HT.out.via HB12.out)).mono ?_
        rintro e w13 ⟨rfl, hB⟩
        have HB13 := Lib.hid (belowVia hB HB12.out)
        clear hB HB12
        go_wp2_with fail
        refine (CR.out w13 (HT.out.via HB13.out)).mono ?_
        rintro e w14 ⟨rfl, hB⟩
        have HB14 := Lib.hid (belowVia hB HB13.out)
        clear hB HB13
        go_wp2_with fail
        go_ret
        exact ⟨rfl, HB14.out⟩
end Go.Proofs.YtggkbeppfpgkaaaDoor
