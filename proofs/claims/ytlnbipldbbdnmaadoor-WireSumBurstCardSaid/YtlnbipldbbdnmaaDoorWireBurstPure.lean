/- Plain mathematics of bursts: a string as one number, and what a change of its bits does to the checksum. No Go here. -/
import Derived.Test.YtlnbipldbbdnmaaDoorWireCrcPure
namespace Putlog

/-- The bytes as one number, the first one lowest. -/
def num : List UInt8 → Nat
  | [] => 0
  | b :: l => b.toNat + 256 * num l

theorem add_eq_xor {b x : Nat} (k : Nat) (h : b < 2 ^ k) : b + 2 ^ k * x = b ^^^ 2 ^ k * x := by
  have h1 := Nat.two_pow_add_eq_or_of_lt h x
  rw [Nat.add_comm, h1]
  apply Nat.eq_of_testBit_eq
  intro i
  rw [Nat.testBit_or, Nat.testBit_xor, Nat.testBit_two_pow_mul]
  by_cases hi : k ≤ i
  · rw [Nat.testBit_lt_two_pow (Nat.lt_of_lt_of_le h (Nat.pow_le_pow_right (by omega) hi))]
    simp
  · simp [hi]
theorem steps_shift : ∀ (k x : Nat), crcSteps k (2 ^ k * x) = x
  | 0, x => by simp [crcSteps]
  | k + 1, x => by
    rw [Nat.pow_succ, Nat.mul_comm (2 ^ k) 2, Nat.mul_assoc, crcSteps, even_step, steps_shift]
/-- The register after the bytes, by the number that they are. -/
theorem crcFrom_num : ∀ (l : List UInt8) (r : Nat), crcFrom r l = crcSteps (8 * l.length) (r ^^^ num l)
  | [], r => by simp [num]; rfl
  | b :: l, r => by
    have hb : b.toNat < 2 ^ 8 := UInt8.toNat_lt b
    have e : num (b :: l) = b.toNat ^^^ 2 ^ 8 * num l := add_eq_xor 8 hb
    have e2 : 8 * (b :: l).length = 8 + 8 * l.length := by simp; omega
    rw [e, e2, ← Nat.xor_assoc, crcSteps_add, crcSteps_xor, steps_shift]
    exact crcFrom_num l (crcByte r b.toNat)
theorem crcStep_pos {r : Nat} (h0 : 0 < r) (h : r < 2 ^ 32) : 0 < crcStep r := by
  unfold crcStep
  split
  · rename_i h1
    have hlt : r / 2 < 2 ^ 31 := by omega
    have ht : (r / 2 ^^^ poly).testBit 31 = true := by
      rw [Nat.testBit_xor, Nat.testBit_lt_two_pow hlt]; decide
    rcases Nat.eq_zero_or_pos (r / 2 ^^^ poly) with h2 | h2
    · rw [h2] at ht; simp at ht
    · exact h2
  · rename_i h1
    simp
    omega
theorem crcSteps_pos : ∀ (k : Nat) {r : Nat}, 0 < r → r < 2 ^ 32 → 0 < crcSteps k r
  | 0, _, h, _ => h
  | k + 1, _, h0, h => crcSteps_pos k (crcStep_pos h0 h) (crcStep_lt h)
theorem crcSteps_zero : ∀ k, crcSteps k 0 = 0
  | 0 => rfl
  | k + 1 => crcSteps_zero k
theorem xor_eq_zero {a b : Nat} (h : a ^^^ b = 0) : a = b := by
  have := congrArg (· ^^^ b) h
  simpa [Nat.xor_assoc] using this
/-- Two strings of one length that differ by a burst: their checksums are the same just if it is none. -/
theorem crcSum_burst (l m : List UInt8) (P t : Nat) (hl : l.length = m.length) (hd : num m = num l ^^^ P * 2 ^ t) (hP : P < 2 ^ 32) (ht : t ≤ 8 * l.length) :
    (crcSum m = crcSum l) = (P = 0) := by
  have h1 : crcFrom 4294967295 m = crcFrom 4294967295 l ^^^ crcSteps (8 * l.length - t) P := by
    rw [crcFrom_num, crcFrom_num, ← hl, hd, ← Nat.xor_assoc, crcSteps_xor]
    congr 1
    conv => lhs; rw [show 8 * l.length = t + (8 * l.length - t) by omega, crcSteps_add]
    rw [Nat.mul_comm P (2 ^ t), steps_shift]
  apply propext
  constructor
  · intro h
    rcases Nat.eq_zero_or_pos P with h0 | h0
    · exact h0
    · exfalso
      have hp := crcSteps_pos (8 * l.length - t) h0 hP
      rw [crcSum_eq, crcSum_eq, h1] at h
      have h2 : crcSteps (8 * l.length - t) P = 0 := by
        have h3 := congrArg (fun x => x ^^^ (4294967295 ^^^ crcFrom 4294967295 l)) h
        simp only [Nat.xor_self] at h3
        rw [← h3]
        apply Nat.eq_of_testBit_eq
        intro i
        simp only [Nat.testBit_xor]
        cases Nat.testBit 4294967295 i <;> cases (crcFrom 4294967295 l).testBit i <;> cases (crcSteps (8 * l.length - t) P).testBit i <;> rfl
      omega
  · rintro rfl
    rw [crcSum_eq, crcSum_eq, h1, crcSteps_zero, Nat.xor_zero]
theorem pow_mul_xor (k a b : Nat) : 2 ^ k * (a ^^^ b) = 2 ^ k * a ^^^ 2 ^ k * b := by
  apply Nat.eq_of_testBit_eq
  intro i
  simp only [Nat.testBit_xor, Nat.testBit_two_pow_mul]
  cases decide (k ≤ i) <;> simp
/-- Changing a bit of a byte changes the bit of the number. -/
theorem num_set : ∀ (l : List UInt8) (q r : Nat), q < l.length → r < 8 → ∀ c : UInt8, c.toNat = (l.getD q 0).toNat ^^^ 2 ^ r → num (l.set q c) = num l ^^^ 2 ^ (8 * q + r)
  | b :: l, 0, r, _, hr, c, hc => by
    have hb : b.toNat < 2 ^ 8 := UInt8.toNat_lt b
    have hcl : c.toNat < 2 ^ 8 := UInt8.toNat_lt c
    show c.toNat + 2 ^ 8 * num l = (b.toNat + 2 ^ 8 * num l) ^^^ 2 ^ (8 * 0 + r)
    rw [add_eq_xor 8 hb, add_eq_xor 8 hcl]
    simp at hc
    rw [hc, Nat.mul_zero, Nat.zero_add, Nat.xor_assoc, Nat.xor_comm (2 ^ r), Nat.xor_assoc]
  | b :: l, q + 1, r, hq, hr, c, hc => by
    have hb : b.toNat < 2 ^ 8 := UInt8.toNat_lt b
    have ih := num_set l q r (by simpa using hq) hr c (by simpa using hc)
    show b.toNat + 2 ^ 8 * num (l.set q c) = (b.toNat + 2 ^ 8 * num l) ^^^ 2 ^ (8 * (q + 1) + r)
    rw [add_eq_xor 8 hb, add_eq_xor 8 hb, ih, pow_mul_xor, ← Nat.pow_add, ← Nat.xor_assoc, show 8 + (8 * q + r) = 8 * (q + 1) + r by omega]
/-- One more bit of the pattern. -/
theorem mod_succ_one {P i : Nat} (h : P / 2 ^ i % 2 = 1) : P % 2 ^ (i + 1) = P % 2 ^ i ^^^ 2 ^ i := by
  have h1 : P % 2 ^ (i + 1) = P % 2 ^ i + 2 ^ i * (P / 2 ^ i % 2) := by rw [Nat.pow_succ, Nat.mod_mul]
  rw [h1, h, Nat.mul_one]
  have := add_eq_xor (x := 1) i (Nat.mod_lt P (Nat.two_pow_pos i))
  simpa using this
theorem mod_succ_zero {P i : Nat} (h : P / 2 ^ i % 2 = 0) : P % 2 ^ (i + 1) = P % 2 ^ i := by
  have h1 : P % 2 ^ (i + 1) = P % 2 ^ i + 2 ^ i * (P / 2 ^ i % 2) := by rw [Nat.pow_succ, Nat.mod_mul]
  rw [h1, h]; simp
theorem xor_mul_pow (a b t : Nat) : (a ^^^ b) * 2 ^ t = a * 2 ^ t ^^^ b * 2 ^ t := by
  rw [Nat.mul_comm, pow_mul_xor, Nat.mul_comm a, Nat.mul_comm b]
theorem mod_pos_one {P i : Nat} (h : P / 2 ^ i % 2 = 1) : P % 2 ^ (i + 1) ≠ 0 := by
  have h1 : P % 2 ^ (i + 1) = P % 2 ^ i + 2 ^ i * (P / 2 ^ i % 2) := by rw [Nat.pow_succ, Nat.mod_mul]
  rw [h1, h]
  have := Nat.two_pow_pos i
  omega
end Putlog
