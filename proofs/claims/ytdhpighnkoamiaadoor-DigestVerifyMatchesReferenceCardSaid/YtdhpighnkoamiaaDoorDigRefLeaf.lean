/- The contracts of the reference's Leaf, Node, Chain and Left. -/
import Derived.Test.YtdhpighnkoamiaaDoorDigRefSum
namespace Go.Proofs.YtdhpighnkoamiaaDoor
open Go.RowKit Putlog

set_option maxHeartbeats 400000 in
theorem rleaf_any (s : ByteArray) (w : World) (hs : (s.size : Int) ≤ 2000) :
    Calls Tryd.prog 16 #[.string s] w fun e w' => e = .returned (.string (leafB s)) ∧ Below w.heap.size w w' := by
  have HC := Lib.hid (rsum_any ((⟨#[0]⟩ : ByteArray) ++ s) w (by rw [ByteArray.size_append]; have : (⟨#[0]⟩ : ByteArray).size = 1 := rfl; omega))
  have hl : shaB ((⟨#[0]⟩ : ByteArray) ++ s) = leafB s := rfl
  rw [hl] at HC
  generalize leafB s = r at *
  clear hl
  go_enter Tryd.func16, Tryd.ntmps16
  go_wp2_with fail
  refine HC.out.mono ?_
  rintro e w' ⟨rfl, hb⟩
  go_wp2_with fail
  go_ret
  exact ⟨rfl, hb⟩
set_option maxHeartbeats 400000 in
theorem rnode_any (s t : ByteArray) (w : World) (hs : (s.size : Int) ≤ 2000) (ht : (t.size : Int) ≤ 2000) :
    Calls Tryd.prog 18 #[.string s, .string t] w fun e w' => e = .returned (.string (nodeB s t)) ∧ Below w.heap.size w w' := by
  have HC := Lib.hid (rsum_any ((⟨#[1]⟩ : ByteArray) ++ s ++ t) w (by rw [ByteArray.size_append, ByteArray.size_append]; have : (⟨#[1]⟩ : ByteArray).size = 1 := rfl; omega))
  have hl : shaB ((⟨#[1]⟩ : ByteArray) ++ s ++ t) = nodeB s t := rfl
  rw [hl] at HC
  generalize nodeB s t = r at *
  clear hl
  go_enter Tryd.func18, Tryd.ntmps18
  go_wp2_with fail
  refine HC.out.mono ?_
  rintro e w' ⟨rfl, hb⟩
  go_wp2_with fail
  go_ret
  exact ⟨rfl, hb⟩
set_option maxHeartbeats 400000 in
theorem rchain_any (s t : ByteArray) (w : World) (hs : (s.size : Int) ≤ 2000) (ht : (t.size : Int) ≤ 2000) :
    Calls Tryd.prog 20 #[.string s, .string t] w fun e w' => e = .returned (.string (chainB s t)) ∧ Below w.heap.size w w' := by
  have HC := Lib.hid (rsum_any ((⟨#[2]⟩ : ByteArray) ++ s ++ t) w (by rw [ByteArray.size_append, ByteArray.size_append]; have : (⟨#[2]⟩ : ByteArray).size = 1 := rfl; omega))
  have hl : shaB ((⟨#[2]⟩ : ByteArray) ++ s ++ t) = chainB s t := rfl
  rw [hl] at HC
  generalize chainB s t = r at *
  clear hl
  go_enter Tryd.func20, Tryd.ntmps20
  go_wp2_with fail
  refine HC.out.mono ?_
  rintro e w' ⟨rfl, hb⟩
  go_wp2_with fail
  go_ret
  exact ⟨rfl, hb⟩
set_option maxRecDepth 100000 in
set_option maxHeartbeats 1000000 in
theorem rleft_any (n : Nat) (w : World) (hn : 2 ≤ n) (h : (n : Int) ≤ 9223372036854775807) :
    Calls Tryd.prog 44 #[.int .i64 n] w fun e w' => e = .returned (.int .i64 (half n : Nat)) ∧ w = w' := by
  have hhl := half_lt hn
  go_enter Tryd.func44, Tryd.ntmps44
  go_wp2_with fail
  go_loop [3] (fun i => ∃ e k : Nat, k = 2 ^ e ∧ k ≤ half n ∧ i = .int .i64 k) (fun i => n - (intOf i).toNat)
  case atStart => exact ⟨0, 1, rfl, half_pos n, rfl⟩
  case round =>
    obtain ⟨e, k, hk, hle, rfl⟩ := hrel
    rw [hk] at hle
    obtain ⟨s1, s2⟩ := left_step hn hle
    rw [← hk] at hle s1 s2
    have hk1 : 1 ≤ k := by rw [hk]; exact Nat.one_le_two_pow
    have HK := Lib.hid hk
    clear hk
    by_cases hlt : k < n - k
    · have hlt' : (k : Int) < (n : Int) - k := by omega
      have h3 := Lib.hid (s1 hlt)
      clear s1 s2
      go_wp2_with fail
      go_round
      case rel => exact ⟨e + 1, 2 * k, by rw [HK.out, Nat.pow_succ, Nat.mul_comm], by have := h3.out; rw [Nat.pow_succ] at this; have := HK.out; omega, by go_num⟩
      case measure => simp [intOf]; omega
    · have hlt' : (n : Int) - k ≤ k := by omega
      have h3 := Lib.hid (s2 hlt)
      clear s1 s2 hlt
      go_wp2_with fail
      go_ret
      refine ⟨?_, rfl⟩
      show Ending.returned (.int .i64 (k : Int)) = _
      rw [h3.out]
end Go.Proofs.YtdhpighnkoamiaaDoor
