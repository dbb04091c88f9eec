/- IntegerDivided: what the law's body answers, out of the contracts. -/
import Derived.Test.YtggkbeppfpgkaaaDoorIntApi
namespace Go.Proofs.YtggkbeppfpgkaaaDoor
open Go.RowKit Putlog

theorem ediv_abs (a b : Int) : (a / b).natAbs ≤ a.natAbs := Int.natAbs_ediv_le_natAbs a b
set_option maxRecDepth 100000 in
set_option maxHeartbeats 4000000 in
theorem Divided_calls (H : Api) (hsane : ∀ w : World, Calls Tryd.prog 11 #[] w fun e w' => e = .returned (.bool true) ∧ Below w.heap.size w w') (a b : ByteArray) (w : World)
    (ha : (a.size : Int) ≤ 9223372036854775807) (hb : (b.size : Int) ≤ 9223372036854775807) :
    Calls Tryd.prog 6 #[.string a, .string b] w fun e w' => e = .returned (.bool true) ∧ Below w.heap.size w w' := by
  have HS := Lib.hid hsane
  have HH := Lib.hid H
  clear H hsane
  go_enter Tryd.func6, Tryd.ntmps6
  go_wp2_with fail
  refine (HS.out w).mono ?_
  rintro e w1 ⟨rfl, hB⟩
  have HB1 := Lib.hid hB
  clear hB HS
  go_wp2_with fail
  refine (rmade_any a 90 w1 ha (by omega)).mono ?_
  rintro e w2 ⟨⟨x, rfl, hx⟩, hB⟩
  have HX := Lib.hid hx
  have HB2 := Lib.hid (belowVia hB HB1.out)
  clear hB hx HB1
  go_wp2_with fail
  refine (rmade_any b 60 w2 hb (by omega)).mono ?_
  rintro e w3 ⟨⟨y, rfl, hy⟩, hB⟩
  have HY := Lib.hid hy
  have HB3 := Lib.hid (belowVia hB HB2.out)
  clear hB hy HB2
  have Fx := Lib.hid (fits_of HX.out (by decide))
  have Fy := Lib.hid (fits_of HY.out (by decide))
  have f0 : Fits 0 := by decide
  have f1 : Fits 1 := by decide
  have F0 := Lib.hid f0
  have F1 := Lib.hid f1
  clear f0 f1
  by_cases hy0 : y = 0
  · subst hy0
    have hz := intB_zero
    go_wp2_with fail
    have hcall := HH.out.divNo x w3 Fx.out
    rw [intB_zero] at hcall
    refine hcall.mono ?_
    rintro e w4 ⟨rfl, hB⟩
    have HB4 := Lib.hid (belowVia hB HB3.out)
    clear hcall hB
    go_wp2_with fail
    go_ret
    exact ⟨rfl, HB4.out⟩
  · have hne := isZero_no hy0
    obtain ⟨s1, s2, s3⟩ := ediv_spec x y hy0
    have hqa := ediv_abs x y
    obtain ⟨q, eq⟩ : ∃ q, x / y = q := ⟨_, rfl⟩
    obtain ⟨r, er⟩ : ∃ r, x % y = r := ⟨_, rfl⟩
    rw [eq, er] at s1
    rw [eq] at hqa
    rw [er] at s2 s3
    obtain ⟨p, ep⟩ : ∃ p, q * y = p := ⟨_, rfl⟩
    obtain ⟨m, em⟩ : ∃ m, x * y = m := ⟨_, rfl⟩
    have esum : p + r = x := by rw [← ep]; exact s1.symm
    have hX := HX.out
    have hY := HY.out
    have hq : q.natAbs < 10 ^ 90 := Nat.lt_of_le_of_lt hqa hX
    have hr : r.natAbs < 10 ^ 60 := by omega
    have hp : p.natAbs < 10 ^ 150 := by rw [← ep]; exact abs_mul hq hY
    have hm : m.natAbs < 10 ^ 150 := by rw [← em]; exact abs_mul hX hY
    have hbk : m / y = x ∧ m % y = 0 := by rw [← em]; exact ⟨Int.mul_ediv_cancel x hy0, Int.mul_emod_left x y⟩
    have c0 : cmpI r 0 = 0 ∨ cmpI r 0 = 1 := by unfold cmpI; split; omega; split <;> simp
    have hsz : ∃ sz : Int, (y < 0 → 0 - y = sz) ∧ (¬ y < 0 → y * 1 = sz) ∧ Fits sz ∧ cmpI r sz = -1 := by
      refine ⟨(y.natAbs : Int), fun h => by omega, fun h => by omega, ?_, by unfold cmpI; rw [if_pos (by omega)]⟩
      show ((y.natAbs : Int)).natAbs < 10 ^ 200
      rw [Int.natAbs_natCast]; exact Fy.out
    obtain ⟨sz, hsz1, hsz2, hsz3, hsz4⟩ := hsz
    have q1 : y * 1 = y := Int.mul_one y
    have Fq := Lib.hid (fits_of hq (by decide))
    have Fr := Lib.hid (fits_of hr (by decide))
    have Fp := Lib.hid (fits_of hp (by decide))
    have Fm := Lib.hid (fits_of hm (by decide))
    have Fs := Lib.hid hsz3
    have EQ := Lib.hid eq
    have ER := Lib.hid er
    have EP := Lib.hid ep
    have EM := Lib.hid em
    have ES := Lib.hid esum
    have EB := Lib.hid hbk
    have C0 := Lib.hid c0
    have C4 := Lib.hid hsz4
    have Q1 := Lib.hid q1
    have Y0 := Lib.hid hy0
    have Z1 := Lib.hid hsz1
    have Z2 := Lib.hid hsz2
    clear s1 s2 s3 hqa eq er ep em esum hX hY hq hr hp hm hbk c0 hsz1 hsz2 hsz3 hsz4 q1 HX HY
    go_wp2_with fail
    have hcall := c_div HH.out x y q r w3 Fx.out Fy.out Y0.out EQ.out ER.out
    refine hcall.mono ?_
    clear hcall
    rintro e w4 ⟨rfl, hB⟩
    have HB4 := Lib.hid (belowVia hB HB3.out)
    clear hB HB3
    go_wp2_with fail
    have hcall := c_mul HH.out q y p w4 Fq.out Fy.out Fp.out EP.out
    refine hcall.mono ?_
    clear hcall
    rintro e w5 ⟨rfl, hB⟩
    have HB5 := Lib.hid (belowVia hB HB4.out)
    clear hB HB4
    go_wp2_with fail
    have hcall := c_add HH.out p r x w5 Fp.out Fr.out Fx.out ES.out
    refine hcall.mono ?_
    clear hcall
    rintro e w6 ⟨rfl, hB⟩
    have HB6 := Lib.hid (belowVia hB HB5.out)
    clear hB HB5
    go_wp2_with fail
    have hcall := c_mul HH.out y 1 y w6 Fy.out F1.out Fy.out Q1.out
    rw [intB_one] at hcall
    refine hcall.mono ?_
    clear hcall
    rintro e w7 ⟨rfl, hB⟩
    have HB7 := Lib.hid (belowVia hB HB6.out)
    clear hB HB6
    by_cases hneg : y < 0
    · have hc : cmpI y 0 = -1 := by unfold cmpI; rw [if_pos hneg]
      go_wp2_with fail
      have hcall := c_cmp HH.out y 0 _ w7 Fy.out F0.out hc
      rw [intB_zero] at hcall
      refine hcall.mono ?_
      clear hcall
      rintro e w8 ⟨rfl, hB⟩
      have HB8 := Lib.hid (belowVia hB HB7.out)
      clear hB HB7
      go_wp2_with fail
      have hcall := c_sub HH.out 0 y sz w8 F0.out Fy.out Fs.out (Z1.out hneg)
      rw [intB_zero] at hcall
      refine hcall.mono ?_
      clear hcall
      rintro e w9 ⟨rfl, hB⟩
      have HB9 := Lib.hid (belowVia hB HB8.out)
      clear hB HB8
      go_wp2_with fail
      have hcall := c_mul HH.out x y m w9 Fx.out Fy.out Fm.out EM.out
      refine hcall.mono ?_
      clear hcall
      rintro e w10 ⟨rfl, hB⟩
      have HB10 := Lib.hid (belowVia hB HB9.out)
      clear hB HB9
      go_wp2_with fail
      have hcall := c_div HH.out m y x 0 w10 Fm.out Fy.out Y0.out EB.out.1 EB.out.2
      rw [intB_zero] at hcall
      refine hcall.mono ?_
      clear hcall
      rintro e w11 ⟨rfl, hB⟩
      have HB11 := Lib.hid (belowVia hB HB10.out)
      clear hB HB10
      rcases C0.out with c0 | c0
      ·
        go_wp2_with fail
        have hcall := c_cmp HH.out r 0 _ w11 Fr.out F0.out c0
        rw [intB_zero] at hcall
        refine hcall.mono ?_
        clear hcall
        rintro e w12 ⟨rfl, hB⟩
        have HB12 := Lib.hid (belowVia hB HB11.out)
        clear hB HB11
        go_wp2_with fail
        have hcall := c_cmp HH.out r sz _ w12 Fr.out Fs.out C4.out
        refine hcall.mono ?_
        clear hcall
        rintro e w13 ⟨rfl, hB⟩
        have HB13 := Lib.hid (belowVia hB HB12.out)
        clear hB HB12
        go_wp2_with fail
        have hcall := c_valid HH.out r w13 Fr.out
        refine hcall.mono ?_
        clear hcall
        rintro e w14 ⟨rfl, hB⟩
        have HB14 := Lib.hid (belowVia hB HB13.out)
        clear hB HB13
        go_wp2_with fail
        go_ret
        exact ⟨rfl, HB14.out⟩
      ·
        go_wp2_with fail
        have hcall := c_cmp HH.out r 0 _ w11 Fr.out F0.out c0
        rw [intB_zero] at hcall
        refine hcall.mono ?_
        clear hcall
        rintro e w12 ⟨rfl, hB⟩
        have HB12 := Lib.hid (belowVia hB HB11.out)
        clear hB HB11
        go_wp2_with fail
        have hcall := c_cmp HH.out r sz _ w12 Fr.out Fs.out C4.out
        refine hcall.mono ?_
        clear hcall
        rintro e w13 ⟨rfl, hB⟩
        have HB13 := Lib.hid (belowVia hB HB12.out)
        clear hB HB12
        go_wp2_with fail
        have hcall := c_valid HH.out r w13 Fr.out
        refine hcall.mono ?_
        clear hcall
        rintro e w14 ⟨rfl, hB⟩
        have HB14 := Lib.hid (belowVia hB HB13.out)
        clear hB HB13
        go_wp2_with fail
        go_ret
        exact ⟨rfl, HB14.out⟩
    · have hc : cmpI y 0 = 1 := by have := Y0.out; unfold cmpI; rw [if_neg hneg, if_pos (by omega)]
      have CY : Hid (cmpI r y = -1) := by have h1 := Z2.out (by omega); have h2 := C4.out; show _ = _; rw [show y = sz by omega]; exact h2
      go_wp2_with fail
      have hcall := c_cmp HH.out y 0 _ w7 Fy.out F0.out hc
      rw [intB_zero] at hcall
      refine hcall.mono ?_
      clear hcall
      rintro e w8 ⟨rfl, hB⟩
      have HB8 := Lib.hid (belowVia hB HB7.out)
      clear hB HB7
      go_wp2_with fail
      have hcall := c_mul HH.out x y m w8 Fx.out Fy.out Fm.out EM.out
      refine hcall.mono ?_
      clear hcall
      rintro e w9 ⟨rfl, hB⟩
      have HB9 := Lib.hid (belowVia hB HB8.out)
      clear hB HB8
      go_wp2_with fail
      have hcall := c_div HH.out m y x 0 w9 Fm.out Fy.out Y0.out EB.out.1 EB.out.2
      rw [intB_zero] at hcall
      refine hcall.mono ?_
      clear hcall
      rintro e w10 ⟨rfl, hB⟩
      have HB10 := Lib.hid (belowVia hB HB9.out)
      clear hB HB9
      rcases C0.out with c0 | c0
      ·
        go_wp2_with fail
        have hcall := c_cmp HH.out r 0 _ w10 Fr.out F0.out c0
        rw [intB_zero] at hcall
        refine hcall.mono ?_
        clear hcall
        rintro e w11 ⟨rfl, hB⟩
        have HB11 := Lib.hid (belowVia hB HB10.out)
        clear hB HB10
        go_wp2_with fail
        have hcall := c_cmp HH.out r y _ w11 Fr.out Fy.out CY.out
        refine hcall.mono ?_
        clear hcall
        rintro e w12 ⟨rfl, hB⟩
        have HB12 := Lib.hid (belowVia hB HB11.out)
        clear hB HB11
        go_wp2_with fail
        have hcall := c_valid HH.out r w12 Fr.out
        refine hcall.mono ?_
        clear hcall
        rintro e w13 ⟨rfl, hB⟩
        have HB13 := Lib.hid (belowVia hB HB12.out)
        clear hB HB12
        go_wp2_with fail
        go_ret
        exact ⟨rfl, HB13.out⟩
      ·
        go_wp2_with fail
        have hcall := c_cmp HH.out r 0 _ w10 Fr.out F0.out c0
        rw [intB_zero] at hcall
        refine hcall.mono ?_
        clear hcall
        rintro e w11 ⟨rfl, hB⟩
        have HB11 := Lib.hid (belowVia hB HB10.out)
        clear hB HB10
        go_wp2_with fail
        have hcall := c_cmp HH.out r y _ w11 Fr.out Fy.out CY.out
        refine hcall.mono ?_
        clear hcall
        rintro e w12 ⟨rfl, hB⟩
        have HB12 := Lib.hid (belowVia hB HB11.out)
        clear hB HB11
        go_wp2_with fail
        have hcall := c_valid HH.out r w12 Fr.out
        refine hcall.mono ?_
        clear hcall
        rintro e w13 ⟨rfl, hB⟩
        have HB13 := Lib.hid (belowVia hB HB12.out)
        clear hB HB12
        go_wp2_with fail
        go_ret
        exact ⟨rfl, HB13.out⟩
end Go.Proofs.YtggkbeppfpgkaaaDoor
