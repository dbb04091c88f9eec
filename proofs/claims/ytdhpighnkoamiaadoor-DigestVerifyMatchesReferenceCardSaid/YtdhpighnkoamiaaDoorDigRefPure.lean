/- Plain mathematics of layer 2: the bytes that the reference adds to a string, and its blocks. -/
import Derived.Test.YtdhpighnkoamiaaDoorDigTreePure
namespace Putlog

def padZ (n : Nat) : Nat := if n % 64 < 56 then 55 - n % 64 else 119 - n % 64
theorem padZ_end {n j : Nat} (h : j ≤ padZ n) : (n + 1 + j) % 64 = 56 ↔ j = padZ n := by
  unfold padZ at h ⊢
  split at h <;> rename_i h1
  · rw [if_pos h1]; omega
  · rw [if_neg h1]; omega
theorem padZ_le (n : Nat) : padZ n ≤ 63 := by unfold padZ; split <;> omega
def extR (l : List UInt8) : List UInt8 := l ++ 128 :: List.replicate (padZ l.length) 0 ++ be64 (8 * l.length)
theorem extR_len (l : List UInt8) : (extR l).length = 64 * (l.length / 64) + (if l.length % 64 < 56 then 64 else 128) := by
  simp only [extR, List.length_append, List.length_cons, List.length_replicate, be64_len, padZ]
  split <;> omega
theorem chunks_one {l : List UInt8} (h : l.length = 64) : chunks 1 l = [l] := by
  simp [chunks, List.take_of_length_le (Nat.le_of_eq h)]
theorem extR_blocks (l : List UInt8) : chunks ((extR l).length / 64) (extR l) = blocksOf l := by
  have hl := extR_len l
  have hd := drop_len l
  unfold blocksOf full
  by_cases h : l.length % 64 < 56
  · rw [if_pos h] at hl
    rw [hl, show (64 * (l.length / 64) + 64) / 64 = l.length / 64 + 1 by omega, chunks_app, tails_short (by rw [hd]; exact h), hd]
    unfold extR padZ
    rw [if_pos h, List.append_assoc, chunks_more _ _ _ (by omega), List.drop_append_of_le_length (by omega)]
    congr 1
    rw [chunks_one (by simp [be64_len]; omega)]
    simp
  · rw [if_neg h] at hl
    rw [hl, show (64 * (l.length / 64) + 128) / 64 = l.length / 64 + 2 by omega, chunks_app, tails_long (by rw [hd]; exact h), hd]
    unfold extR padZ
    rw [if_neg h, List.append_assoc, chunks_more _ _ _ (by omega), List.drop_append_of_le_length (by omega)]
    congr 1
    generalize l.drop (64 * (l.length / 64)) = t at *
    have e1 : t ++ ((128 :: List.replicate (119 - l.length % 64) 0) ++ be64 (8 * l.length)) = (t ++ 128 :: List.replicate (63 - l.length % 64) 0) ++ (List.replicate 56 0 ++ be64 (8 * l.length)) := by
      rw [show 119 - l.length % 64 = (63 - l.length % 64) + 56 by omega, ← List.replicate_append_replicate]
      simp
    rw [e1, show (2 : Nat) = 1 + 1 from rfl, chunks_app, chunks_more _ _ _ (by simp; omega), chunks_one (by simp; omega), Nat.mul_one, List.drop_append_of_le_length (by simp; omega), List.drop_eq_nil_of_le (by simp; omega), List.nil_append, chunks_one (by simp [be64_len])]
    rfl
theorem extR_mod (l : List UInt8) : (extR l).length % 64 = 0 := by rw [extR_len]; split <;> omega
theorem extR_le (l : List UInt8) : (extR l).length ≤ l.length + 128 := by rw [extR_len]; split <;> omega
/-- One chunk more. -/
theorem chunks_snoc (l : List UInt8) (k : Nat) : chunks (k + 1) l = chunks k l ++ [(l.drop (64 * k)).take 64] := by
  rw [chunks_app]; rfl
end Putlog
