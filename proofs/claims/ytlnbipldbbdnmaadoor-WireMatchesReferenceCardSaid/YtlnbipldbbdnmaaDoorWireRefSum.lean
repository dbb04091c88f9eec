/- The contract of the reference's Sum. -/
import Derived.Test.YtlnbipldbbdnmaaDoorWireRefString
namespace Go.Proofs.YtlnbipldbbdnmaaDoor
open Go.RowKit Putlog

theorem crcSteps_succ (j x : Nat) : crcSteps (j + 1) x = crcStep (crcSteps j x) := by rw [crcSteps_add]; rfl
theorem crcStep_odd {y : Nat} (h : y % 2 = 1) : crcStep y = y / 2 ^^^ 2197175160 := by unfold crcStep; rw [if_pos h]; rfl
theorem crcStep_even {y : Nat} (h : ¬ y % 2 = 1) : crcStep y = y / 2 := by unfold crcStep; rw [if_neg h]; simp

set_option maxRecDepth 100000 in
set_option maxHeartbeats 1000000 in
theorem RefSum_any (s : ByteArray) (w : World) (hs : s.size ≤ 9223372036854775807) :
    Calls Tryd.prog 22 #[.string s] w fun e w' => e = .returned (.int .i64 (crcSum s.data.toList : Nat)) ∧ w = w' := by
  have hs0 : (s.size : Int) ≤ 9223372036854775807 := by omega
  clear hs
  go_enter Tryd.func22, Tryd.ntmps22
  go_wp2
  go_loop [3, 4] (fun r i => ∃ k : Nat, k ≤ s.size ∧ i = .int .i64 k ∧ r = .int .u32 (crcFrom 4294967295 (s.data.toList.take k) : Nat)) (fun _ i => s.size - (intOf i).toNat)
  case atStart => exact ⟨0, Nat.zero_le _, rfl, rfl⟩
  case round =>
    obtain ⟨k, hk, rfl, rfl⟩ := hrel
    by_cases hlt : k < s.size
    · have hr := crcFrom_lt (s.data.toList.take k) (r := 4294967295) (by decide)
      have hbt : s[k].toNat < 256 := UInt8.toNat_lt _
      have hsnoc : crcFrom 4294967295 (s.data.toList.take (k + 1)) = crcByte (crcFrom 4294967295 (s.data.toList.take k)) s[k].toNat := by
        rw [List.take_succ_eq_append_getElem (by simpa using hlt), crcFrom_snoc]; rfl
      have hxor := u32_xor_nat (crcFrom 4294967295 (s.data.toList.take k)) s[k].toNat (by omega) (by omega)
      have hx0 : crcFrom 4294967295 (s.data.toList.take k) ^^^ s[k].toNat < 2 ^ 32 := Nat.xor_lt_two_pow hr (by omega)
      rw [show crcByte (crcFrom 4294967295 (s.data.toList.take k)) s[k].toNat = crcSteps 8 (crcFrom 4294967295 (s.data.toList.take k) ^^^ s[k].toNat) from rfl] at hsnoc
      generalize crcFrom 4294967295 (s.data.toList.take k) ^^^ s[k].toNat = x at *
      have HX := Lib.hid hx0
      have HS := Lib.hid hsnoc
      have HR := Lib.hid hr
      have hbt' : (s[k].toNat : Int) < 256 := by omega
      generalize hrr : crcFrom 4294967295 (s.data.toList.take k) = r at *
      clear hx0 hsnoc hr hbt hrr
      go_wp2
      go_loop [3, 5] (fun r i => ∃ j : Nat, j ≤ 8 ∧ i = .int .i64 j ∧ r = .int .u32 (crcSteps j x : Nat)) (fun _ i => 8 - (intOf i).toNat)
      case atStart => exact ⟨0, by omega, rfl, rfl⟩
      case round =>
        obtain ⟨j, hj, rfl, rfl⟩ := hrel
        by_cases hj2 : j < 8
        · have hy := crcSteps_lt j HX.out
          have hsucc := crcSteps_succ j x
          have hj2' : (j : Int) < 8 := by omega
          clear hxor
          by_cases hodd : crcSteps j x % 2 = 1
          · rw [crcStep_odd hodd] at hsucc
            have hxo := u32_xor_nat (crcSteps j x / 2) 2197175160 (by omega) (by omega)
            rw [show crcSteps j x / 2 ^^^ 2197175160 = crcSteps (j + 1) x from hsucc.symm] at hxo
            generalize hy1 : crcSteps (j + 1) x = y' at *
            generalize hy0 : crcSteps j x = y at *
            have HY := Lib.hid hy1
            have hxo' : bits .xor .u32 ((y : Int) / 2) 2197175160 = (y' : Int) := by simpa using hxo
            have ho : ((y : Int) % 2 == 1) = true := by simp; omega
            have hy' : (y : Int) < 4294967296 := by omega
            clear hy0 hy1 hxo hsucc hodd hy hj2
            go_wp2
            go_round
            case rel => exact ⟨j + 1, by omega, by go_num, by rw [HY.out]⟩
            case measure => simp [intOf]; omega
          · rw [crcStep_even hodd] at hsucc
            generalize hy1 : crcSteps (j + 1) x = y' at *
            generalize hy0 : crcSteps j x = y at *
            have HY := Lib.hid (hy1.trans hsucc)
            have ho : ((y : Int) % 2 == 1) = false := by simp; omega
            have hy' : (y : Int) < 4294967296 := by omega
            clear hy0 hy1 hsucc hodd hy hj2
            go_wp2
            go_round
            case rel => exact ⟨j + 1, by omega, by go_num, by rw [HY.out]; simp⟩
            case measure => simp [intOf]; omega
        · obtain rfl : j = 8 := by omega
          clear hxor
          generalize hy0 : crcSteps 8 x = y at *
          have HY := Lib.hid hy0
          clear hy0
          go_wp2
          go_round
          case rel => exact ⟨k + 1, by omega, by go_num, by rw [HS.out]⟩
          case measure => simp [intOf]; omega
    · have hr := crcFrom_lt (s.data.toList.take k) (r := 4294967295) (by decide)
      have e : s.data.toList.take k = s.data.toList := List.take_of_length_le (by simp; omega)
      rw [e] at hr ⊢
      have hend : crcSum s.data.toList = 4294967295 - crcFrom 4294967295 s.data.toList := rfl
      have HE := Lib.hid hend
      generalize crcFrom 4294967295 s.data.toList = r at *
      have hr' : (r : Int) < 4294967296 := by omega
      have hnot := u32_not r hr
      have hlt' : (s.size : Int) ≤ k := by omega
      clear hr hend e hlt hk hr'
      have hsg : IntKind.u32.signed = false := rfl
      have hmx : IntKind.u32.max = 4294967295 := by decide
      go_wp2
      go_ret
      exact ⟨by rw [HE.out]; rfl, rfl⟩
end Go.Proofs.YtlnbipldbbdnmaaDoor
