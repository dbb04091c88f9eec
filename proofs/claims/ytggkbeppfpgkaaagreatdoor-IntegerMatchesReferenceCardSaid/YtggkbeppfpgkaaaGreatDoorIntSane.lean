/- The contract of the laws' sane. -/
import Derived.Test.YtggkbeppfpgkaaaGreatDoorIntRootE
namespace Go.Proofs.YtggkbeppfpgkaaaGreatDoor
open Go.RowKit Putlog

theorem b_p999 : (intB (999)) = (⟨#[57, 57, 57]⟩ : ByteArray) := by decide +kernel
theorem f_p999 : Fits (999) := by decide +kernel
theorem b_p1 : (intB (1)) = (⟨#[49]⟩ : ByteArray) := by decide +kernel
theorem f_p1 : Fits (1) := by decide +kernel
theorem b_p1000 : (intB (1000)) = (⟨#[49, 48, 48, 48]⟩ : ByteArray) := by decide +kernel
theorem f_p1000 : Fits (1000) := by decide +kernel
theorem b_m999 : (intB (-999)) = (⟨#[45, 57, 57, 57]⟩ : ByteArray) := by decide +kernel
theorem f_m999 : Fits (-999) := by decide +kernel
theorem b_m12 : (intB (-12)) = (⟨#[45, 49, 50]⟩ : ByteArray) := by decide +kernel
theorem f_m12 : Fits (-12) := by decide +kernel
theorem b_p12 : (intB (12)) = (⟨#[49, 50]⟩ : ByteArray) := by decide +kernel
theorem f_p12 : Fits (12) := by decide +kernel
theorem b_m144 : (intB (-144)) = (⟨#[45, 49, 52, 52]⟩ : ByteArray) := by decide +kernel
theorem f_m144 : Fits (-144) := by decide +kernel
theorem b_m7 : (intB (-7)) = (⟨#[45, 55]⟩ : ByteArray) := by decide +kernel
theorem f_m7 : Fits (-7) := by decide +kernel
theorem b_p2 : (intB (2)) = (⟨#[50]⟩ : ByteArray) := by decide +kernel
theorem f_p2 : Fits (2) := by decide +kernel
theorem b_m4 : (intB (-4)) = (⟨#[45, 52]⟩ : ByteArray) := by decide +kernel
theorem f_m4 : Fits (-4) := by decide +kernel
theorem b_m2 : (intB (-2)) = (⟨#[45, 50]⟩ : ByteArray) := by decide +kernel
theorem f_m2 : Fits (-2) := by decide +kernel
theorem b_p4 : (intB (4)) = (⟨#[52]⟩ : ByteArray) := by decide +kernel
theorem f_p4 : Fits (4) := by decide +kernel
theorem b_m18 : (intB (-18)) = (⟨#[45, 49, 56]⟩ : ByteArray) := by decide +kernel
theorem f_m18 : Fits (-18) := by decide +kernel
theorem b_p6 : (intB (6)) = (⟨#[54]⟩ : ByteArray) := by decide +kernel
theorem f_p6 : Fits (6) := by decide +kernel
theorem b_p99 : (intB (99)) = (⟨#[57, 57]⟩ : ByteArray) := by decide +kernel
theorem f_p99 : Fits (99) := by decide +kernel
theorem b_p9 : (intB (9)) = (⟨#[57]⟩ : ByteArray) := by decide +kernel
theorem f_p9 : Fits (9) := by decide +kernel
theorem b_m1 : (intB (-1)) = (⟨#[45, 49]⟩ : ByteArray) := by decide +kernel
theorem f_m1 : Fits (-1) := by decide +kernel
theorem b_m8 : (intB (-8)) = (⟨#[45, 56]⟩ : ByteArray) := by decide +kernel
theorem f_m8 : Fits (-8) := by decide +kernel
theorem s_add (w : World) : Calls Tryz.prog 7 #[.string ⟨#[57, 57, 57]⟩, .string ⟨#[49]⟩] w fun e w' => e = .returned (.tuple #[.string ⟨#[49, 48, 48, 48]⟩, .int .i64 0]) ∧ Below w.heap.size w w' := by
  have h := add_ok (999) (1) f_p999 f_p1 w
  rw [show (999 : Int) + (1) = 1000 by decide, okS_fits f_p1000, okE_fits f_p1000, b_p999, b_p1, b_p1000] at h
  exact h
theorem s_sub (w : World) : Calls Tryz.prog 9 #[.string ⟨#[49]⟩, .string ⟨#[49, 48, 48, 48]⟩] w fun e w' => e = .returned (.tuple #[.string ⟨#[45, 57, 57, 57]⟩, .int .i64 0]) ∧ Below w.heap.size w w' := by
  have h := sub_ok (1) (1000) f_p1 f_p1000 w
  rw [show (1 : Int) - (1000) = -999 by decide, okS_fits f_m999, okE_fits f_m999, b_p1, b_p1000, b_m999] at h
  exact h
theorem s_mul (w : World) : Calls Tryz.prog 11 #[.string ⟨#[45, 49, 50]⟩, .string ⟨#[49, 50]⟩] w fun e w' => e = .returned (.tuple #[.string ⟨#[45, 49, 52, 52]⟩, .int .i64 0]) ∧ Below w.heap.size w w' := by
  have h := mul_ok (-12) (12) f_m12 f_p12 w
  rw [show (-12 : Int) * (12) = -144 by decide, okS_fits f_m144, okE_fits f_m144, b_m12, b_p12, b_m144] at h
  exact h
theorem s_div1 (w : World) : Calls Tryz.prog 13 #[.string ⟨#[45, 55]⟩, .string ⟨#[50]⟩] w fun e w' => e = .returned (.tuple #[.string ⟨#[45, 52]⟩, .string ⟨#[49]⟩, .int .i64 0]) ∧ Below w.heap.size w w' := by
  have h := div_ok (-7) (2) f_m7 f_p2 (by decide) w
  rw [show (-7 : Int) / (2) = -4 by decide, show (-7 : Int) % (2) = 1 by decide, b_m7, b_p2, b_m4, b_p1] at h
  exact h
theorem s_div2 (w : World) : Calls Tryz.prog 13 #[.string ⟨#[45, 55]⟩, .string ⟨#[45, 50]⟩] w fun e w' => e = .returned (.tuple #[.string ⟨#[52]⟩, .string ⟨#[49]⟩, .int .i64 0]) ∧ Below w.heap.size w w' := by
  have h := div_ok (-7) (-2) f_m7 f_m2 (by decide) w
  rw [show (-7 : Int) / (-2) = 4 by decide, show (-7 : Int) % (-2) = 1 by decide, b_m7, b_m2, b_p4, b_p1] at h
  exact h
theorem s_gcd (w : World) : Calls Tryz.prog 15 #[.string ⟨#[49, 50]⟩, .string ⟨#[45, 49, 56]⟩] w fun e w' => e = .returned (.tuple #[.string ⟨#[54]⟩, .int .i64 0]) ∧ Below w.heap.size w w' := by
  have h := gcd_ok (12) (-18) f_p12 f_m18 w
  rw [show ((Int.gcd 12 (-18) : Nat) : Int) = 6 by decide, b_p12, b_m18, b_p6] at h
  exact h
theorem s_root (w : World) : Calls Tryz.prog 17 #[.string ⟨#[57, 57]⟩] w fun e w' => e = .returned (.tuple #[.string ⟨#[57]⟩, .int .i64 0]) ∧ Below w.heap.size w w' := by
  have h := root_ok (99) f_p99 (by decide) w
  rw [show ((sqrtN (99 : Int).natAbs : Nat) : Int) = 9 by decide +kernel, b_p99, b_p9] at h
  exact h
theorem s_rootn (w : World) : Calls Tryz.prog 17 #[.string ⟨#[45, 49]⟩] w fun e w' => e = .returned (.tuple #[.string ⟨#[]⟩, .int .i64 30]) ∧ Below w.heap.size w w' := by
  have h := root_neg (-1) f_m1 (by decide) w
  rw [b_m1] at h
  exact h
theorem s_addn (w : World) : Calls Tryz.prog 7 #[.string ⟨#[48, 48, 55]⟩, .string ⟨#[49]⟩] w fun e w' => e = .returned (.tuple #[.string ⟨#[]⟩, .int .i64 30]) ∧ Below w.heap.size w w' :=
  add_any _ _ _ _ w (comb_no _ _ _ w (both_no1 ⟨#[48, 48, 55]⟩ ⟨#[49]⟩ (by decide) (by decide +kernel) w))
theorem s_valid0 (w : World) : Calls Tryz.prog 21 #[.string ⟨#[45, 55]⟩] w fun e w' => e = .returned (.bool true) ∧ w' = w := by
  have h := valid_any ⟨#[45, 55]⟩ (by decide) w
  rwa [show validT (⟨#[45, 55]⟩ : ByteArray).data.toList = true by decide +kernel] at h
theorem s_valid1 (w : World) : Calls Tryz.prog 21 #[.string ⟨#[45, 48]⟩] w fun e w' => e = .returned (.bool false) ∧ w' = w := by
  have h := valid_any ⟨#[45, 48]⟩ (by decide) w
  rwa [show validT (⟨#[45, 48]⟩ : ByteArray).data.toList = false by decide +kernel] at h
theorem s_valid2 (w : World) : Calls Tryz.prog 21 #[.string ⟨#[]⟩] w fun e w' => e = .returned (.bool false) ∧ w' = w := by
  have h := valid_any ⟨#[]⟩ (by decide) w
  rwa [show validT (⟨#[]⟩ : ByteArray).data.toList = false by decide +kernel] at h
theorem s_cmp (w : World) : Calls Tryz.prog 23 #[.string ⟨#[45, 56]⟩, .string ⟨#[45, 55]⟩] w fun e w' => e = .returned (.int .i64 (-1)) ∧ Below w.heap.size w w' := by
  have h := cmp_ok (-8) (-7) f_m8 f_m7 w
  rw [show cmpI (-8) (-7) = -1 by decide, b_m8, b_m7] at h
  exact h
set_option maxRecDepth 100000 in
set_option maxHeartbeats 4000000 in
theorem sane_any (w : World) : Calls Tryz.prog 4 #[] w fun e w' => e = .returned (.bool true) ∧ Below w.heap.size w w' := by
  go_enter Tryz.func4, Tryz.ntmps4
  go_wp2_with fail
  refine (s_add _).mono ?_
  rintro e w1 ⟨rfl, h1⟩
  go_wp2_with fail
  refine (s_sub _).mono ?_
  rintro e w2 ⟨rfl, h2⟩
  have h2 := belowVia h2 h1
  go_wp2_with fail
  refine (s_mul _).mono ?_
  rintro e w3 ⟨rfl, h3⟩
  have h3 := belowVia h3 h2
  go_wp2_with fail
  refine (s_div1 _).mono ?_
  rintro e w4 ⟨rfl, h4⟩
  have h4 := belowVia h4 h3
  go_wp2_with fail
  refine (s_div2 _).mono ?_
  rintro e w5 ⟨rfl, h5⟩
  have h5 := belowVia h5 h4
  go_wp2_with fail
  refine (s_gcd _).mono ?_
  rintro e w6 ⟨rfl, h6⟩
  have h6 := belowVia h6 h5
  go_wp2_with fail
  refine (s_root _).mono ?_
  rintro e w7 ⟨rfl, h7⟩
  have h7 := belowVia h7 h6
  go_wp2_with fail
  refine (s_rootn _).mono ?_
  rintro e w8 ⟨rfl, h8⟩
  have h8 := belowVia h8 h7
  go_wp2_with fail
  refine (s_addn _).mono ?_
  rintro e w9 ⟨rfl, h9⟩
  have h9 := belowVia h9 h8
  go_wp2_with fail
  refine (s_valid0 _).mono ?_
  rintro e w10 ⟨rfl, rfl⟩
  go_wp2_with fail
  refine (s_valid1 _).mono ?_
  rintro e w11 ⟨rfl, rfl⟩
  go_wp2_with fail
  refine (s_valid2 _).mono ?_
  rintro e w12 ⟨rfl, rfl⟩
  go_wp2_with fail
  refine (s_cmp _).mono ?_
  rintro e w13 ⟨rfl, h13⟩
  go_wp2_with fail
  go_ret
  exact ⟨rfl, belowVia h13 h9⟩
end Go.Proofs.YtggkbeppfpgkaaaGreatDoor
