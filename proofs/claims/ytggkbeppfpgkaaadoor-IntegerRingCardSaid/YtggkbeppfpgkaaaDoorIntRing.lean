/- IntegerRing: what the law's body answers, out of the contracts. -/
import Derived.Test.YtggkbeppfpgkaaaDoorIntApi
namespace Go.Proofs.YtggkbeppfpgkaaaDoor
open Go.RowKit Putlog

set_option maxRecDepth 100000 in
set_option maxHeartbeats 4000000 in
theorem Ring_calls (H : Api) (hsane : ∀ w : World, Calls Tryd.prog 11 #[] w fun e w' => e = .returned (.bool true) ∧ Below w.heap.size w w') (a b c : ByteArray) (w : World)
    (ha : (a.size : Int) ≤ 9223372036854775807) (hb : (b.size : Int) ≤ 9223372036854775807) (hc : (c.size : Int) ≤ 9223372036854775807) :
    Calls Tryd.prog 5 #[.string a, .string b, .string c] w fun e w' => e = .returned (.bool true) ∧ Below w.heap.size w w' := by
  have HS := Lib.hid hsane
  have HH := Lib.hid H
  clear H hsane
  go_enter Tryd.func5, Tryd.ntmps5
  go_wp2_with fail
  refine (HS.out w).mono ?_
  rintro e w1 ⟨rfl, hB⟩
  have HB1 := Lib.hid hB
  clear hB HS
  go_wp2_with fail
  refine (rmade_any a 60 w1 ha (by omega)).mono ?_
  rintro e w2 ⟨⟨x, rfl, hx⟩, hB⟩
  have HX := Lib.hid hx
  have HB2 := Lib.hid (belowVia hB HB1.out)
  clear hB hx HB1
  go_wp2_with fail
  refine (rmade_any b 60 w2 hb (by omega)).mono ?_
  rintro e w3 ⟨⟨y, rfl, hy⟩, hB⟩
  have HY := Lib.hid hy
  have HB3 := Lib.hid (belowVia hB HB2.out)
  clear hB hy HB2
  go_wp2_with fail
  refine (rmade_any c 60 w3 hc (by omega)).mono ?_
  rintro e w4 ⟨⟨z, rfl, hz⟩, hB⟩
  have HZ := Lib.hid hz
  have HB4 := Lib.hid (belowVia hB HB3.out)
  clear hB hz HB3
  have f0 : Fits 0 := by decide
  have f1 : Fits 1 := by decide
  have hx := HX.out
  have hy := HY.out
  have hz := HZ.out
  obtain ⟨x1, e1⟩ : ∃ r, x + y = r := ⟨_, rfl⟩
  have h1 : x1.natAbs < 10 ^ 61 := by rw [← e1]; exact abs_add hx hy
  obtain ⟨x2, e2⟩ : ∃ r, x1 + z = r := ⟨_, rfl⟩
  have h2 : x2.natAbs < 10 ^ 62 := by rw [← e2]; exact abs_add h1 (abs_up hz (by decide))
  obtain ⟨x3, e3⟩ : ∃ r, y + z = r := ⟨_, rfl⟩
  have h3 : x3.natAbs < 10 ^ 61 := by rw [← e3]; exact abs_add hy hz
  obtain ⟨x4, e4⟩ : ∃ r, x * y = r := ⟨_, rfl⟩
  have h4 : x4.natAbs < 10 ^ 120 := by rw [← e4]; exact abs_mul hx hy
  obtain ⟨x5, e5⟩ : ∃ r, x4 * z = r := ⟨_, rfl⟩
  have h5 : x5.natAbs < 10 ^ 180 := by rw [← e5]; exact abs_mul h4 hz
  obtain ⟨x6, e6⟩ : ∃ r, y * z = r := ⟨_, rfl⟩
  have h6 : x6.natAbs < 10 ^ 120 := by rw [← e6]; exact abs_mul hy hz
  obtain ⟨x7, e7⟩ : ∃ r, x1 * z = r := ⟨_, rfl⟩
  have h7 : x7.natAbs < 10 ^ 121 := by rw [← e7]; exact abs_mul h1 hz
  obtain ⟨x8, e8⟩ : ∃ r, x * z = r := ⟨_, rfl⟩
  have h8 : x8.natAbs < 10 ^ 120 := by rw [← e8]; exact abs_mul hx hz
  obtain ⟨x9, e9⟩ : ∃ r, x - y = r := ⟨_, rfl⟩
  have h9 : x9.natAbs < 10 ^ 61 := by rw [← e9]; exact abs_sub hx hy
  have q2 : y + x = x1 := by omega
  have q4 : x + x3 = x2 := by omega
  have q5 : y * x = x4 := by rw [Int.mul_comm]; exact e4
  have q6 : x * x6 = x5 := by rw [← e6, ← e5, ← e4, Int.mul_assoc]
  have q7 : x8 + x6 = x7 := by rw [← e8, ← e6, ← e7, ← e1, Int.add_mul]
  have q8 : x9 + y = x := by omega
  have q9 : x * 1 = x := Int.mul_one x
  have q0 : x * 0 = 0 := Int.mul_zero x
  have Fx := Lib.hid (fits_of hx (by decide))
  have Fy := Lib.hid (fits_of hy (by decide))
  have Fz := Lib.hid (fits_of hz (by decide))
  have Fx1 := Lib.hid (fits_of h1 (by decide))
  have Fx2 := Lib.hid (fits_of h2 (by decide))
  have Fx3 := Lib.hid (fits_of h3 (by decide))
  have Fx4 := Lib.hid (fits_of h4 (by decide))
  have Fx5 := Lib.hid (fits_of h5 (by decide))
  have Fx6 := Lib.hid (fits_of h6 (by decide))
  have Fx7 := Lib.hid (fits_of h7 (by decide))
  have Fx8 := Lib.hid (fits_of h8 (by decide))
  have Fx9 := Lib.hid (fits_of h9 (by decide))
  have F0 := Lib.hid f0
  have F1 := Lib.hid f1
  have E1 := Lib.hid e1
  have E2 := Lib.hid e2
  have E3 := Lib.hid e3
  have E4 := Lib.hid e4
  have E5 := Lib.hid e5
  have E6 := Lib.hid e6
  have E7 := Lib.hid e7
  have E8 := Lib.hid e8
  have E9 := Lib.hid e9
  have Q2 := Lib.hid q2
  have Q4 := Lib.hid q4
  have Q5 := Lib.hid q5
  have Q6 := Lib.hid q6
  have Q7 := Lib.hid q7
  have Q8 := Lib.hid q8
  have Q9 := Lib.hid q9
  have Q0 := Lib.hid q0
  clear f0 f1 hx hy hz h1 h2 h3 h4 h5 h6 h7 h8 h9 e1 e2 e3 e4 e5 e6 e7 e8 e9 q2 q4 q5 q6 q7 q8 q9 q0 HX HY HZ
  go_wp2_with fail
  refine (c_add HH.out x y x1 w4 Fx.out Fy.out Fx1.out E1.out).mono ?_
  rintro e w5 ⟨rfl, hB⟩
  have HB5 := Lib.hid (belowVia hB HB4.out)
  clear hB HB4
  go_wp2_with fail
  refine (c_add HH.out y x x1 w5 Fy.out Fx.out Fx1.out Q2.out).mono ?_
  rintro e w6 ⟨rfl, hB⟩
  have HB6 := Lib.hid (belowVia hB HB5.out)
  clear hB HB5
  go_wp2_with fail
  refine (c_add HH.out x1 z x2 w6 Fx1.out Fz.out Fx2.out E2.out).mono ?_
  rintro e w7 ⟨rfl, hB⟩
  have HB7 := Lib.hid (belowVia hB HB6.out)
  clear hB HB6
  go_wp2_with fail
  refine (c_add HH.out y z x3 w7 Fy.out Fz.out Fx3.out E3.out).mono ?_
  rintro e w8 ⟨rfl, hB⟩
  have HB8 := Lib.hid (belowVia hB HB7.out)
  clear hB HB7
  go_wp2_with fail
  refine (c_add HH.out x x3 x2 w8 Fx.out Fx3.out Fx2.out Q4.out).mono ?_
  rintro e w9 ⟨rfl, hB⟩
  have HB9 := Lib.hid (belowVia hB HB8.out)
  clear hB HB8
  go_wp2_with fail
  refine (c_mul HH.out x y x4 w9 Fx.out Fy.out Fx4.out E4.out).mono ?_
  rintro e w10 ⟨rfl, hB⟩
  have HB10 := Lib.hid (belowVia hB HB9.out)
  clear hB HB9
  go_wp2_with fail
  refine (c_mul HH.out y x x4 w10 Fy.out Fx.out Fx4.out Q5.out).mono ?_
  rintro e w11 ⟨rfl, hB⟩
  have HB11 := Lib.hid (belowVia hB HB10.out)
  clear hB HB10
  go_wp2_with fail
  refine (c_mul HH.out x4 z x5 w11 Fx4.out Fz.out Fx5.out E5.out).mono ?_
  rintro e w12 ⟨rfl, hB⟩
  have HB12 := Lib.hid (belowVia hB HB11.out)
  clear hB HB11
  go_wp2_with fail
  refine (c_mul HH.out y z x6 w12 Fy.out Fz.out Fx6.out E6.out).mono ?_
  rintro e w13 ⟨rfl, hB⟩
  have HB13 := Lib.hid (belowVia hB HB12.out)
  clear hB HB12
  go_wp2_with fail
  refine (c_mul HH.out x x6 x5 w13 Fx.out Fx6.out Fx5.out Q6.out).mono ?_
  rintro e w14 ⟨rfl, hB⟩
  have HB14 := Lib.hid (belowVia hB HB13.out)
  clear hB HB13
  go_wp2_with fail
  refine (c_mul HH.out x1 z x7 w14 Fx1.out Fz.out Fx7.out E7.out).mono ?_
  rintro e w15 ⟨rfl, hB⟩
  have HB15 := Lib.hid (belowVia hB HB14.out)
  clear hB HB14
  go_wp2_with fail
  refine (c_mul HH.out x z x8 w15 Fx.out Fz.out Fx8.out E8.out).mono ?_
  rintro e w16 ⟨rfl, hB⟩
  have HB16 := Lib.hid (belowVia hB HB15.out)
  clear hB HB15
  go_wp2_with fail
  refine (c_add HH.out x8 x6 x7 w16 Fx8.out Fx6.out Fx7.out Q7.out).mono ?_
  rintro e w17 ⟨rfl, hB⟩
  have HB17 := Lib.hid (belowVia hB HB16.out)
  clear hB HB16
  go_wp2_with fail
  refine (c_sub HH.out x y x9 w17 Fx.out Fy.out Fx9.out E9.out).mono ?_
  rintro e w18 ⟨rfl, hB⟩
  have HB18 := Lib.hid (belowVia hB HB17.out)
  clear hB HB17
  go_wp2_with fail
  refine (c_add HH.out x9 y x w18 Fx9.out Fy.out Fx.out Q8.out).mono ?_
  rintro e w19 ⟨rfl, hB⟩
  have HB19 := Lib.hid (belowVia hB HB18.out)
  clear hB HB18
  go_wp2_with fail
  have hcall := c_mul HH.out x 1 x w19 Fx.out F1.out Fx.out Q9.out
  rw [intB_one] at hcall
  refine hcall.mono ?_
  clear hcall
  rintro e w20 ⟨rfl, hB⟩
  have HB20 := Lib.hid (belowVia hB HB19.out)
  clear hB HB19
  go_wp2_with fail
  have hcall := c_mul HH.out x 0 0 w20 Fx.out F0.out F0.out Q0.out
  rw [intB_zero] at hcall
  refine hcall.mono ?_
  clear hcall
  rintro e w21 ⟨rfl, hB⟩
  have HB21 := Lib.hid (belowVia hB HB20.out)
  clear hB HB20
  go_wp2_with fail
  go_ret
  exact ⟨rfl, HB21.out⟩
end Go.Proofs.YtggkbeppfpgkaaaDoor
