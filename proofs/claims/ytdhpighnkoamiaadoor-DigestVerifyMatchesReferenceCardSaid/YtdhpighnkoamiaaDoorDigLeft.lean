/- The contracts of left and binary. -/
import Derived.Test.YtdhpighnkoamiaaDoorDigFew
namespace Go.Proofs.YtdhpighnkoamiaaDoor
open Go.RowKit Putlog

theorem left_step {e n : Nat} (hn : 2 ≤ n) (h : 2 ^ e ≤ half n) : (2 ^ e < n - 2 ^ e → 2 ^ (e + 1) ≤ half n) ∧ (¬ 2 ^ e < n - 2 ^ e → 2 ^ e = half n) := by
  have hd := half_dbl hn
  have hl := half_lt hn
  have hg : e ≤ Nat.log2 (n - 1) := by
    rcases Nat.lt_or_ge (Nat.log2 (n - 1)) e with h1 | h1
    · have : 2 ^ (Nat.log2 (n - 1) + 1) ≤ 2 ^ e := Nat.pow_le_pow_right (by omega) h1
      rw [Nat.pow_succ] at this
      have hp := half_pos n
      unfold half at h hp
      omega
    · exact h1
  rcases Nat.lt_or_ge e (Nat.log2 (n - 1)) with h2 | h2
  · have h3 : 2 ^ (e + 1) ≤ half n := Nat.pow_le_pow_right (by omega) h2
    refine ⟨fun _ => h3, fun h4 => ?_⟩
    rw [Nat.pow_succ] at h3
    omega
  · have h3 : 2 ^ e = half n := by unfold half; rw [show e = Nat.log2 (n - 1) by omega]
    exact ⟨fun h4 => by omega, fun _ => h3⟩
set_option maxRecDepth 100000 in
set_option maxHeartbeats 1000000 in
theorem left_any (n : Nat) (w : World) (hn : 2 ≤ n) (h : (n : Int) ≤ 9223372036854775807) :
    Calls Tryd.prog 38 #[.int .i64 n] w fun e w' => e = .returned (.int .i64 (half n : Nat)) ∧ w = w' := by
  have hhl := half_lt hn
  go_enter Tryd.func38, Tryd.ntmps38
  go_wp2_with fail
  go_loop [3] (fun i => ∃ e k : Nat, k = 2 ^ e ∧ k ≤ half n ∧ i = .int .i64 k) (fun i => n - (intOf i).toNat)
  case atStart => exact ⟨0, 1, rfl, half_pos n, rfl⟩
  case round =>
    obtain ⟨e, k, hk, hle, rfl⟩ := hrel
    rw [hk] at hle
    obtain ⟨s1, s2⟩ := left_step hn hle
    rw [← hk] at hle s1 s2
    have hk1 : 1 ≤ k := by rw [hk]; exact Nat.one_le_two_pow
    have HK := Lib.hid hk
    clear hk
    by_cases hlt : k < n - k
    · have hlt' : (k : Int) < (n : Int) - k := by omega
      have h3 := Lib.hid (s1 hlt)
      clear s1 s2
      go_wp2_with fail
      go_round
      case rel => exact ⟨e + 1, 2 * k, by rw [HK.out, Nat.pow_succ, Nat.mul_comm], by have := h3.out; rw [Nat.pow_succ] at this; have := HK.out; omega, by go_num⟩
      case measure => simp [intOf]; omega
    · have hlt' : (n : Int) - k ≤ k := by omega
      have h3 := Lib.hid (s2 hlt)
      clear s1 s2 hlt
      go_wp2_with fail
      go_ret
      refine ⟨?_, rfl⟩
      show Ending.returned (.int .i64 (k : Int)) = _
      rw [h3.out]
set_option maxRecDepth 100000 in
set_option maxHeartbeats 1000000 in
theorem binary_any (n : Nat) (w : World) (h : (n : Int) ≤ 1048576) :
    Calls Tryd.prog 33 #[.int .i64 n] w fun e w' => e = .returned (.int .i64 (bitsOf n : Nat)) ∧ w = w' := by
  have hb : bitsOf n ≤ n + 1 := by
    have := bitsOf_lt n n (Nat.le_refl _)
    suffices h : ∀ k m, m ≤ k → bitsOf m ≤ m from by have := h n n (Nat.le_refl _); omega
    intro k
    induction k with
    | zero => intro m hm; obtain rfl : m = 0 := by omega
              rw [bitsOf_zero]; omega
    | succ k ih =>
      intro m hm
      rcases Nat.eq_zero_or_pos m with rfl | h0
      · rw [bitsOf_zero]; omega
      · rw [bitsOf_pos h0]; have := ih (m / 2) (by omega); omega
  go_enter Tryd.func33, Tryd.ntmps33
  go_wp2_with fail
  go_loop [0, 3] (fun i j => ∃ m k : Nat, m ≤ n ∧ i = .int .i64 m ∧ j = .int .i64 k ∧ bitsOf m + k = bitsOf n) (fun i _ => (intOf i).toNat)
  case atStart => exact ⟨n, 0, Nat.le_refl _, rfl, rfl, rfl⟩
  case round =>
    obtain ⟨m, k, hmn, rfl, rfl, hk⟩ := hrel
    have hm2 : (m : Int) ≤ 1048576 := by omega
    by_cases h0 : 0 < m
    · have h1 := bitsOf_pos h0
      have HN : Hid (bitsOf (m / 2) + (k + 1) = bitsOf n) := by show bitsOf (m / 2) + (k + 1) = bitsOf n; omega
      have hk2 : (k : Int) ≤ 1048577 := by omega
      have h0' : 0 < (m : Int) := by omega
      clear h1 hk
      go_wp2_with fail
      go_round
      case rel => exact ⟨m / 2, k + 1, by omega, by go_num, by go_num, HN.out⟩
      case measure => simp [intOf]; omega
    · obtain rfl : m = 0 := by omega
      rw [bitsOf_zero, Nat.zero_add] at hk
      have HK := Lib.hid hk
      clear hk h0
      go_wp2_with fail
      go_ret
      exact ⟨by rw [← HK.out]; rfl, rfl⟩
end Go.Proofs.YtdhpighnkoamiaaDoor
