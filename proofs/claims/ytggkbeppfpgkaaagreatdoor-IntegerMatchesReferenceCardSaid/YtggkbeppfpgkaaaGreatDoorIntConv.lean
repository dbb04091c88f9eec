/- Plain mathematics of layer 3: what strconv writes and reads. Nothing of the program. -/
import Derived.Test.YtggkbeppfpgkaaaGreatDoorIntSpec
import Derived.Lib.ItoaNum
import Derived.Lib.AtoiAll
namespace Putlog
open Go

theorem natT_step {u : Nat} (h : 10 ≤ u) : natT u = natT (u / 10) ++ [chr10 (u % 10)] := by
  unfold natT
  rw [if_neg (by omega), if_neg (by omega), digsL_pos (by decide) (by omega)]
  simp
theorem decDigits_eq (k : Nat) : ∀ u, u ≤ k → Lib.decDigits u = natT u := by
  induction k with
  | zero =>
    intro u hu
    obtain rfl : u = 0 := by omega
    rw [Lib.decDigits]; rfl
  | succ k ih =>
    intro u hu
    rw [Lib.decDigits]
    split
    · rename_i h
      rcases Nat.eq_zero_or_pos u with rfl | h0
      · rfl
      · unfold natT
        rw [if_neg (by omega), digsL_pos (by decide) h0, Nat.div_eq_of_lt h, digsL_zero, Nat.mod_eq_of_lt h]; rfl
    · rw [ih (u / 10) (by omega), natT_step (u := u) (by omega)]; rfl
theorem itoa_eq (n : Int) : Lib.itoa n = intT n := by
  unfold Lib.itoa intT
  split
  · rw [decDigits_eq _ _ (Nat.le_refl _)]
  · rw [decDigits_eq _ _ (Nat.le_refl _), show n.toNat = n.natAbs by omega]
theorem natV_cons (c : UInt8) (r : List UInt8) : natV (c :: r) = natV r + 10 ^ r.length * (c.toNat - 48) := by
  have h : decT (c :: r) = decT r ++ [c.toNat - 48] := by simp [decT]
  have hl : (decT r).length = r.length := by simp [decT]
  rw [natV, h, leV_snoc, hl]; rfl
theorem parse_digits : ∀ (l : List UInt8) (acc : Nat), (∀ c ∈ l, IsDig c) → acc < 18446744073709551616 →
    Lib.parseUint10 acc l = if acc * 10 ^ l.length + natV l < 18446744073709551616 then .ok (acc * 10 ^ l.length + natV l) else .range
  | [], acc, _, ha => by
    have h0 : natV [] = 0 := rfl
    simp only [Lib.parseUint10, List.length_nil, Nat.pow_zero, Nat.mul_one, h0, Nat.add_zero]
    rw [if_pos ha]
  | c :: r, acc, hd, ha => by
    have hc := hd c (List.mem_cons_self ..)
    have hr : ∀ c ∈ r, IsDig c := fun x hx => hd x (List.mem_cons_of_mem _ hx)
    unfold IsDig at hc
    have hp : 0 < 10 ^ r.length := Nat.pow_pos (by decide)
    have hv : acc * 10 ^ (c :: r).length + natV (c :: r) = (acc * 10 + (c.toNat - 48)) * 10 ^ r.length + natV r := by
      rw [natV_cons, List.length_cons, Nat.pow_succ, Nat.add_mul, Nat.mul_comm (10 ^ r.length) (c.toNat - 48), Nat.mul_comm (10 ^ r.length) 10, Nat.mul_assoc]
      omega
    rw [hv]
    simp only [Lib.parseUint10]
    rw [if_pos hc]
    have hge : acc * 10 + (c.toNat - 48) ≤ (acc * 10 + (c.toNat - 48)) * 10 ^ r.length := Nat.le_mul_of_pos_right _ hp
    split
    · rw [if_neg (by omega)]
    · split
      · rw [if_neg (by omega)]
      · rw [parse_digits r _ hr (by omega)]
theorem parse_nat (u : Nat) : Lib.parseMag (natT u) = if u < 18446744073709551616 then .ok u else .range := by
  unfold Lib.parseMag
  rw [if_neg (natT_ne u), parse_digits _ _ (natT_dig u) (by decide), natT_val]
  simp
theorem head_dig (u : Nat) : ∃ c r, natT u = c :: r ∧ IsDig c := by
  cases h : natT u with
  | nil => exact absurd h (natT_ne u)
  | cons c r => exact ⟨c, r, rfl, natT_dig u c (by rw [h]; exact List.mem_cons_self ..)⟩
theorem atoi_eq (z : Int) : Lib.atoiAll (intT z) = if -9223372036854775808 ≤ z ∧ z ≤ 9223372036854775807 then .ok z else .range := by
  unfold intT
  by_cases h : z < 0
  · rw [if_pos h]
    have h45 : (45 : UInt8).toNat = 45 := rfl
    unfold Lib.atoiAll
    simp only [h45, or_true, if_true, true_and, not_true_eq_false, false_and, if_false]
    rw [parse_nat]
    by_cases hu : z.natAbs < 18446744073709551616
    · rw [if_pos hu]
      simp only
      by_cases h2 : 9223372036854775808 < z.natAbs
      · rw [if_pos h2, if_neg (by omega)]
      · rw [if_neg h2, if_pos (by omega)]
        congr 1; omega
    · rw [if_neg hu, if_neg (by omega)]
  · rw [if_neg h]
    obtain ⟨c, r, hcr, hc⟩ := head_dig z.natAbs
    unfold IsDig at hc
    have hp := parse_nat z.natAbs
    rw [hcr] at hp ⊢
    have h43 : ¬ c.toNat = 43 := by omega
    have h45 : ¬ c.toNat = 45 := by omega
    unfold Lib.atoiAll
    simp only [h43, h45, or_self, if_false, hp, false_and, not_false_eq_true, true_and]
    by_cases hu : z.natAbs < 18446744073709551616
    · rw [if_pos hu]
      simp only
      by_cases h2 : 9223372036854775808 ≤ z.natAbs
      · rw [if_pos h2, if_neg (by omega)]
      · rw [if_neg h2, if_pos (by omega)]
        congr 1; omega
    · rw [if_neg hu, if_neg (by omega)]
end Putlog
