/- Plain mathematics of layer 3: which texts are integers; quotients, divisors, roots. Nothing of the program. -/
import Derived.Test.YtggkbeppfpgkaaaGreatDoorIntPure
namespace Putlog

def maxZ : Nat := 10 ^ 200
/-- A valid integer: at most 200 digits. -/
def Fits (z : Int) : Prop := z.natAbs < 10 ^ 200
instance (z : Int) : Decidable (Fits z) := inferInstanceAs (Decidable (_ < _))
def isDigB (c : UInt8) : Bool := 48 ≤ c.toNat && c.toNat ≤ 57
/-- Whether a text is a valid integer. -/
def validT (l : List UInt8) : Bool :=
  if l.head? = some 45 then l.tail.all isDigB && !l.tail.isEmpty && decide (l.tail.length ≤ 200) && !(l.tail.head? == some 48)
  else l.all isDigB && !l.isEmpty && decide (l.length ≤ 200) && (l == [48] || !(l.head? == some 48))
theorem isDigB_iff (c : UInt8) : isDigB c = true ↔ IsDig c := by simp [isDigB, IsDig]
theorem all_isDigB (l : List UInt8) : l.all isDigB = true ↔ ∀ c ∈ l, IsDig c := by simp [List.all_eq_true, isDigB_iff]
theorem validT_int (z : Int) : validT (intT z) = true ↔ Fits z := by
  have hl := natT_len z.natAbs 200 (by decide)
  have hd := (all_isDigB _).2 (natT_dig z.natAbs)
  have hn : (natT z.natAbs).isEmpty = false := by
    have := natT_ne z.natAbs
    cases h : natT z.natAbs with
    | nil => exact absurd h this
    | cons c t => rfl
  unfold intT
  split
  · rename_i h
    have h0 := natT_head (n := z.natAbs) (by omega)
    unfold validT
    rw [if_pos (by simp), List.tail_cons, hd, hn]
    have h1 : ((natT z.natAbs).head? == some 48) = false := by simpa using h0
    rw [h1]
    simp [Fits, hl]
  · unfold validT
    rw [if_neg (natT_head_dig _), hd, hn]
    have h1 : (natT z.natAbs == [48] || !((natT z.natAbs).head? == some 48)) = true := by
      rcases (okT_natT z.natAbs).2.2 with h | h
      · simp [h]
      · have : ((natT z.natAbs).head? == some 48) = false := by simpa using h
        simp [this]
    rw [h1]
    simp [Fits, hl]
theorem validT_some {l : List UInt8} (h : validT l = true) : ∃ z : Int, l = intT z ∧ Fits z := by
  unfold validT at h
  split at h
  · rename_i h45
    simp only [Bool.and_eq_true, decide_eq_true_eq, Bool.not_eq_true'] at h
    obtain ⟨⟨⟨h1, h2⟩, h3⟩, h4⟩ := h
    cases l with
    | nil => cases h45
    | cons c t =>
      have hc : c = 45 := by simpa using h45
      subst hc
      rw [List.tail_cons] at h1 h2 h3 h4
      have ht : t ≠ [] := by intro e; subst e; cases h2
      have hz : t.head? ≠ some 48 := by simpa using h4
      have hok := natT_natV ((all_isDigB t).1 h1) ht (.inr hz)
      have hne : natV t ≠ 0 := by
        intro e
        rw [e] at hok
        apply hz; rw [← hok]; rfl
      have hzz : (-(natV t : Int)).natAbs = natV t := by omega
      refine ⟨-(natV t : Int), ?_, ?_⟩
      · unfold intT
        rw [if_pos (by omega), hzz, hok]
      · show (-(natV t : Int)).natAbs < 10 ^ 200
        rw [hzz]
        exact (natT_len _ 200 (by decide)).1 (by rw [hok]; exact h3)
  · simp only [Bool.and_eq_true, decide_eq_true_eq, Bool.not_eq_true', Bool.or_eq_true] at h
    obtain ⟨⟨⟨h1, h2⟩, h3⟩, h4⟩ := h
    have ht : l ≠ [] := by intro e; subst e; cases h2
    have hz : l = [48] ∨ l.head? ≠ some 48 := by
      rcases h4 with h4 | h4
      · exact .inl (by simpa using h4)
      · exact .inr (by simpa using h4)
    have hok := natT_natV ((all_isDigB l).1 h1) ht hz
    refine ⟨(natV l : Int), ?_, ?_⟩
    · unfold intT
      rw [if_neg (by omega), Int.natAbs_natCast, hok]
    · show ((natV l : Int)).natAbs < 10 ^ 200
      rw [Int.natAbs_natCast]
      exact (natT_len _ 200 (by decide)).1 (by rw [hok]; exact h3)
theorem validT_iff (l : List UInt8) : validT l = true ↔ ∃ z : Int, l = intT z ∧ Fits z :=
  ⟨validT_some, fun ⟨z, h, hf⟩ => by rw [h]; exact (validT_int z).2 hf⟩

/-- The greatest number whose square is at most n. -/
def rootN (n : Nat) : Nat → Nat
  | 0 => 0
  | k + 1 => if (k + 1) * (k + 1) ≤ n then k + 1 else rootN n k
def sqrtN (n : Nat) : Nat := rootN n n
theorem rootN_le (n : Nat) : ∀ k, rootN n k * rootN n k ≤ n
  | 0 => by simp [rootN]
  | k + 1 => by
    unfold rootN
    split
    · assumption
    · exact rootN_le n k
theorem rootN_max (n : Nat) : ∀ k j, j ≤ k → j * j ≤ n → j ≤ rootN n k
  | 0, j, h, _ => by simp [rootN]; omega
  | k + 1, j, h, hj => by
    unfold rootN
    split
    · exact h
    · rename_i h1
      rcases Nat.lt_or_ge j (k + 1) with h2 | h2
      · exact rootN_max n k j (by omega) hj
      · have h3 : j = k + 1 := by omega
        subst h3
        exact absurd hj h1
theorem sqrtN_le (n : Nat) : sqrtN n * sqrtN n ≤ n := rootN_le n n
theorem sqrtN_lt (n : Nat) : n < (sqrtN n + 1) * (sqrtN n + 1) := by
  rcases Nat.lt_or_ge n ((sqrtN n + 1) * (sqrtN n + 1)) with h | h
  · exact h
  · have h1 : sqrtN n + 1 ≤ n := Nat.le_trans (Nat.le_mul_of_pos_left _ (by omega)) h
    have := rootN_max n n (sqrtN n + 1) h1 h
    unfold sqrtN at this; omega
theorem sqrtN_unique {n r : Nat} (h1 : r * r ≤ n) (h2 : n < (r + 1) * (r + 1)) : r = sqrtN n := by
  have h3 := sqrtN_le n
  have h4 := sqrtN_lt n
  rcases Nat.lt_trichotomy r (sqrtN n) with h | h | h
  · have : (r + 1) * (r + 1) ≤ sqrtN n * sqrtN n := Nat.mul_le_mul h h
    omega
  · exact h
  · have : (sqrtN n + 1) * (sqrtN n + 1) ≤ r * r := Nat.mul_le_mul h h
    omega
theorem sqrtN_square (r : Nat) : sqrtN (r * r) = r := (sqrtN_unique (Nat.le_refl _) (Nat.mul_lt_mul_of_lt_of_le (by omega) (by omega) (by omega))).symm
/-- Euclid's quotient and remainder. -/
theorem ediv_spec (a b : Int) (hb : b ≠ 0) : a = a / b * b + a % b ∧ 0 ≤ a % b ∧ a % b < b.natAbs := by
  refine ⟨?_, Int.emod_nonneg a hb, ?_⟩
  · have := Int.mul_ediv_add_emod a b; rw [Int.mul_comm] at this; omega
  · rcases Int.lt_or_gt_of_ne hb with h | h
    · have := Int.emod_lt_of_pos a (show 0 < -b by omega); rw [Int.emod_neg] at this; omega
    · have := Int.emod_lt_of_pos a h; omega
theorem ediv_unique {a b q r : Int} (hb : b ≠ 0) (h : a = q * b + r) (h0 : 0 ≤ r) (h1 : r < b.natAbs) : q = a / b ∧ r = a % b := by
  have h2 : r = a % b := by
    rw [h, Int.add_comm, Int.add_mul_emod_self_right]
    rcases Int.lt_or_gt_of_ne hb with h2 | h2
    · rw [← Int.emod_neg]; exact (Int.emod_eq_of_lt h0 (by omega)).symm
    · exact (Int.emod_eq_of_lt h0 (by omega)).symm
  refine ⟨?_, h2⟩
  obtain ⟨e1, _, _⟩ := ediv_spec a b hb
  have : q * b = a / b * b := by omega
  exact Int.eq_of_mul_eq_mul_right hb this
end Putlog
