/- The contract of Sum. -/
import Derived.Lib.LaidTab
import Derived.Laws.BitsAllLaws
import Derived.Test.YtlnbipldbbdnmaaDoorWireCrcPure
import Derived.Test.YtlnbipldbbdnmaaDoorWireString
namespace Go.Proofs.YtlnbipldbbdnmaaDoor
open Go.RowKit Putlog

/-- The table lies in its variable. -/
def TabAt (w : World) : Prop := ∀ i, i < 16 → w.cell? ⟨0, i, none⟩ = some (.int .u32 (crcTab.getD i 0 : Nat))

theorem u32_not (r : Nat) (h : r < 2 ^ 32) : bits .xor .u32 4294967295 (r : Int) = ((4294967295 - r : Nat) : Int) := by
  show IntKind.u32.wrap ((BitVec.ofInt 32 4294967295 ^^^ BitVec.ofInt 32 (r : Int)).toNat : Int) = _
  have h1 : BitVec.ofInt 32 4294967295 = BitVec.allOnes 32 := by decide
  rw [h1, BitVec.allOnes_xor, BitVec.toNat_not, BitVec.ofInt_natCast, BitVec.toNat_ofNat, Nat.mod_eq_of_lt h]
  simp [IntKind.wrap, IntKind.bits, IntKind.signed]
  omega
set_option maxRecDepth 100000 in
set_option maxHeartbeats 1000000 in
theorem Sum_any (s : ByteArray) (w : World) (hs : s.size ≤ 9223372036854775807) (hT : TabAt w) :
    Calls Tryd.prog 21 #[.string s] w fun e w' => e = .returned (.int .i64 (crcSum s.data.toList : Nat)) ∧ w = w' := by
  have hs0 : (s.size : Int) ≤ 9223372036854775807 := by omega
  have HT := Lib.hid hT
  clear hT hs
  go_enter Tryd.func21, Tryd.ntmps21
  go_wp2
  go_loop [3, 7] (fun r i => ∃ k : Nat, k ≤ s.size ∧ i = .int .i64 k ∧ r = .int .u32 (crcFrom 4294967295 (s.data.toList.take k) : Nat)) (fun _ i => s.size - (intOf i).toNat)
  case atStart => exact ⟨0, Nat.zero_le _, rfl, rfl⟩
  case round =>
    obtain ⟨k, hk, rfl, rfl⟩ := hrel
    by_cases hlt : k < s.size
    · have hr := crcFrom_lt (s.data.toList.take k) (r := 4294967295) (by decide)
      have hbt : s[k].toNat < 256 := UInt8.toNat_lt _
      have hsnoc : crcFrom 4294967295 (s.data.toList.take (k + 1)) = crcByte (crcFrom 4294967295 (s.data.toList.take k)) s[k].toNat := by
        rw [List.take_succ_eq_append_getElem (by simpa using hlt), crcFrom_snoc]; rfl
      have hxor := u32_xor_nat (crcFrom 4294967295 (s.data.toList.take k)) s[k].toNat (by omega) (by omega)
      have hx0 : crcFrom 4294967295 (s.data.toList.take k) ^^^ s[k].toNat < 2 ^ 32 := Nat.xor_lt_two_pow hr (by omega)
      rw [← crcNibs_two] at hsnoc
      generalize crcFrom 4294967295 (s.data.toList.take k) ^^^ s[k].toNat = x at *
      have HX := Lib.hid hx0
      have HS := Lib.hid hsnoc
      have HR := Lib.hid hr
      have hbt' : (s[k].toNat : Int) < 256 := by omega
      generalize hrr : crcFrom 4294967295 (s.data.toList.take k) = r at *
      clear hx0 hsnoc hr hbt hrr
      go_wp2
      go_loop [3, 16] (fun r i => ∃ j : Nat, j ≤ 2 ∧ i = .int .i64 j ∧ r = .int .u32 (crcNibs j x : Nat)) (fun _ i => 2 - (intOf i).toNat)
      case atStart => exact ⟨0, by omega, rfl, rfl⟩
      case round =>
        obtain ⟨j, hj, rfl, rfl⟩ := hrel
        by_cases hj2 : j < 2
        · have hy := crcNibs_lt HX.out j
          have hc := HT.out (crcNibs j x % 16) (by omega)
          have hxo := u32_xor_nat (crcNibs j x / 16) (crcTab.getD (crcNibs j x % 16) 0) (by omega) (crcTab_lt _)
          have hsucc : crcNibs (j + 1) x = crcNibs j x / 16 ^^^ crcTab.getD (crcNibs j x % 16) 0 := rfl
          rw [← hsucc] at hxo
          have HN := Lib.hid hsucc
          clear hsucc
          generalize crcTab.getD (crcNibs j x % 16) 0 = t at *
          generalize hy1 : crcNibs (j + 1) x = y' at *
          generalize hy0 : crcNibs j x = y at *
          have HY := Lib.hid hy1
          clear hy0 hy1
          have hxo' : bits .xor .u32 ((y : Int) / 16) (t : Int) = (y' : Int) := by simpa using hxo
          clear hxo
          have hy' : (y : Int) < 4294967296 := by omega
          have hj2' : (j : Int) < 2 := by omega
          clear hy hj2 hxor
          go_wp2
          go_round
          case rel => exact ⟨j + 1, by omega, by go_num, by rw [HY.out]⟩
          case measure => simp [intOf]; omega
        · obtain rfl : j = 2 := by omega
          clear hxor
          generalize hy0 : crcNibs 2 x = y at *
          have HY := Lib.hid hy0
          clear hy0
          go_wp2
          go_round
          case rel => exact ⟨k + 1, by omega, by go_num, by rw [HS.out]⟩
          case measure => simp [intOf]; omega
    · have hr := crcFrom_lt (s.data.toList.take k) (r := 4294967295) (by decide)
      have e : s.data.toList.take k = s.data.toList := List.take_of_length_le (by simp; omega)
      rw [e] at hr ⊢
      have hend : crcSum s.data.toList = 4294967295 - crcFrom 4294967295 s.data.toList := rfl
      have HE := Lib.hid hend
      generalize crcFrom 4294967295 s.data.toList = r at *
      have hr' : (r : Int) < 4294967296 := by omega
      have hnot := u32_not r hr
      have hlt' : (s.size : Int) ≤ k := by omega
      clear hr hend e hlt hk hr'
      have hsg : IntKind.u32.signed = false := rfl
      have hmx : IntKind.u32.max = 4294967295 := by decide
      go_wp2
      go_ret
      exact ⟨by rw [HE.out]; rfl, rfl⟩
end Go.Proofs.YtlnbipldbbdnmaaDoor
