/- Plain mathematics of layer 2: what is proved is accepted, and is short. -/
import Derived.Test.YtdhpighnkoamiaaDoorDigTreePure
namespace Putlog

theorem half_same {m n : Nat} (h1 : half n < m) (h2 : m ≤ n) (hn : 2 ≤ n) : half m = half n := by
  have hd := half_dbl hn
  have hp := half_pos n
  unfold half at *
  congr 1
  refine (Nat.log2_eq_iff (by omega)).2 ⟨by omega, ?_⟩
  rw [Nat.pow_succ]; omega
def getB (l : List ByteArray) : Nat → ByteArray := fun j => l.getD j ByteArray.empty
theorem getB_left {a b : List ByteArray} {j : Nat} (h : j < a.length) : getB (a ++ b) j = getB a j := by
  simp [getB, List.getD_eq_getElem?_getD, List.getElem?_append_left h]
theorem getB_last (a : List ByteArray) (x : ByteArray) : getB (a ++ [x]) a.length = x := by simp [getB]
theorem valueS_congr {ps qs : Nat → ByteArray} (s : ByteArray) (k : Nat) : ∀ (n i m : Nat), n ≤ k → (∀ j, j < m → ps j = qs j) → valueS ps s n i m = valueS qs s n i m := by
  induction k with
  | zero => intro n i m h _; rw [valueS_one (by omega), valueS_one (by omega)]
  | succ k ih =>
    intro n i m h hj
    rcases Nat.lt_or_ge n 2 with h2 | h2
    · rw [valueS_one (by omega), valueS_one (by omega)]
    · have h3 := half_pos n
      have h4 := half_lt h2
      cases m with
      | zero => rw [valueS_nil h2, valueS_nil h2]
      | succ m =>
        rcases Nat.lt_or_ge i (half n) with h5 | h5
        · rw [valueS_left h2 h5, valueS_left h2 h5, ih _ _ _ (by omega) (fun j hjm => hj j (by omega)), hj m (by omega)]
        · rw [valueS_right h2 h5, valueS_right h2 h5, ih _ _ _ (by omega) (fun j hjm => hj j (by omega)), hj m (by omega)]
theorem proof_value (ss : Nat → ByteArray) (k : Nat) : ∀ (n i o : Nat), n ≤ k → i < n → valueS (getB (besideS ss o n i)) (ss (o + i)) n i (besideS ss o n i).length = (rootS ss o n, true) := by
  induction k with
  | zero => intro n i o h hi; omega
  | succ k ih =>
    intro n i o h hi
    rcases Nat.lt_or_ge n 2 with h2 | h2
    · obtain rfl : n = 1 := by omega
      obtain rfl : i = 0 := by omega
      rw [besideS_one (Nat.le_refl _), valueS_one (Nat.le_refl _), rootS_one]; rfl
    · have h3 := half_pos n
      have h4 := half_lt h2
      rcases Nat.lt_or_ge i (half n) with h5 | h5
      · rw [besideS_left h2 h5, List.length_append, List.length_singleton, valueS_left h2 h5, getB_last]
        rw [valueS_congr _ (half n) _ _ _ (Nat.le_refl _) (fun j hj => getB_left hj), ih _ _ _ (by omega) h5, rootS_more h2]
      · rw [besideS_right h2 h5, List.length_append, List.length_singleton, valueS_right h2 h5, getB_last]
        have := ih (n - half n) (i - half n) (o + half n) (by omega) (by omega)
        rw [show o + half n + (i - half n) = o + i by omega] at this
        rw [valueS_congr _ (n - half n) _ _ _ (Nat.le_refl _) (fun j hj => getB_left hj), this, rootS_more h2]
theorem twoS_congr {ps qs : Nat → ByteArray} (old : ByteArray) (k : Nat) : ∀ (m n q : Nat) (whole : Bool), n ≤ k → 1 ≤ m → m ≤ n → (∀ j, j < q → ps j = qs j) → twoS ps old m n q whole = twoS qs old m n q whole := by
  induction k with
  | zero => intro m n q whole h h1 h2; omega
  | succ k ih =>
    intro m n q whole h h1 h2 hj
    by_cases hw : m = n ∧ whole = true
    · obtain ⟨rfl, rfl⟩ := hw
      rw [twoS_whole, twoS_whole]
    · cases q with
      | zero => rw [twoS_nil hw, twoS_nil hw]
      | succ q =>
        by_cases hm : m = n
        · subst hm
          have hwf : whole = false := by cases whole; rfl; exact absurd ⟨rfl, rfl⟩ hw
          subst hwf
          rw [twoS_all, twoS_all, hj q (by omega)]
        · have h3 := half_pos n
          have h4 := half_lt (n := n) (by omega)
          rcases Nat.lt_or_ge (half n) m with h5 | h5
          · rw [twoS_right (by omega) h5, twoS_right (by omega) h5, ih _ _ _ _ (by omega) (by omega) (by omega) (fun j hjm => hj j (by omega)), hj q (by omega)]
          · rw [twoS_left (by omega) h1 h5, twoS_left (by omega) h1 h5, ih _ _ _ _ (by omega) h1 h5 (fun j hjm => hj j (by omega)), hj q (by omega)]
theorem ext_value (ss : Nat → ByteArray) (k : Nat) : ∀ (n m o : Nat) (whole : Bool) (old : ByteArray), n ≤ k → 1 ≤ m → m ≤ n → (whole = true → old = rootS ss o m) →
    twoS (getB (partS ss o n m whole)) old m n (partS ss o n m whole).length whole = (rootS ss o m, rootS ss o n, true) := by
  induction k with
  | zero => intro n m o whole old h h1 h2; omega
  | succ k ih =>
    intro n m o whole old h h1 h2 ho
    by_cases hm : m = n
    · subst hm
      cases whole with
      | true => rw [partS_whole, twoS_whole, ho rfl]; rfl
      | false => rw [partS_all, List.length_singleton, twoS_all]; rfl
    · have h3 := half_pos n
      have h4 := half_lt (n := n) (by omega)
      have hr := rootS_more (ss := ss) (o := o) (n := n) (by omega)
      rcases Nat.lt_or_ge (half n) m with h5 | h5
      · have hmr := rootS_more (ss := ss) (o := o) (n := m) (by omega)
        rw [half_same h5 h2 (by omega)] at hmr
        rw [partS_right (by omega) h5, List.length_append, List.length_singleton, twoS_right (by omega) h5, getB_last]
        rw [twoS_congr old (n - half n) _ _ _ _ (Nat.le_refl _) (by omega) (by omega) (fun j hj => getB_left hj), ih _ _ (o + half n) false old (by omega) (by omega) (by omega) (fun h => by cases h), hr, hmr]
      · rw [partS_left (by omega) h1 h5, List.length_append, List.length_singleton, twoS_left (by omega) h1 h5, getB_last]
        rw [twoS_congr old (half n) _ _ _ _ (Nat.le_refl _) h1 h5 (fun j hj => getB_left hj), ih _ _ o whole old (by omega) h1 h5 ho, hr]
/-- The number of binary digits. -/
def bitsOf (n : Nat) : Nat := if h : n = 0 then 0 else bitsOf (n / 2) + 1
  termination_by n
  decreasing_by omega
theorem bitsOf_zero : bitsOf 0 = 0 := by rw [bitsOf, dif_pos rfl]
theorem bitsOf_pos {n : Nat} (h : 0 < n) : bitsOf n = bitsOf (n / 2) + 1 := by rw [bitsOf, dif_neg (by omega)]
theorem bitsOf_lt (k : Nat) : ∀ n, n ≤ k → n < 2 ^ bitsOf n := by
  induction k with
  | zero => intro n h; obtain rfl : n = 0 := by omega
            rw [bitsOf_zero]; decide
  | succ k ih =>
    intro n h
    rcases Nat.eq_zero_or_pos n with rfl | h0
    · rw [bitsOf_zero]; decide
    · rw [bitsOf_pos h0, Nat.pow_succ]
      have := ih (n / 2) (by omega)
      omega
theorem bitsOf_one {n : Nat} (h : 0 < n) : 1 ≤ bitsOf n := by rw [bitsOf_pos h]; omega
theorem half_pow {n d : Nat} (h : 2 ≤ n) (hn : n ≤ 2 ^ (d + 1)) : half n ≤ 2 ^ d ∧ n - half n ≤ 2 ^ d := by
  have h1 := half_lt h
  have h2 := half_dbl h
  have h3 : half n ≤ 2 ^ d := by
    have : Nat.log2 (n - 1) < d + 1 := by
      rcases Nat.lt_or_ge (Nat.log2 (n - 1)) (d + 1) with h4 | h4
      · exact h4
      · have h5 : 2 ^ (d + 1) ≤ half n := Nat.pow_le_pow_right (by omega) h4
        omega
    exact Nat.pow_le_pow_right (by omega) (by omega)
  exact ⟨h3, by omega⟩
theorem beside_short (ss : Nat → ByteArray) (d : Nat) : ∀ (n o i : Nat), n ≤ 2 ^ d → (besideS ss o n i).length ≤ d := by
  induction d with
  | zero => intro n o i h; rw [besideS_one (by simpa using h)]; simp
  | succ d ih =>
    intro n o i h
    rcases Nat.lt_or_ge n 2 with h2 | h2
    · rw [besideS_one (by omega)]; simp
    · obtain ⟨h3, h4⟩ := half_pow h2 h
      rcases Nat.lt_or_ge i (half n) with h5 | h5
      · rw [besideS_left h2 h5]; have := ih (half n) o i h3; simp; omega
      · rw [besideS_right h2 h5]; have := ih (n - half n) (o + half n) (i - half n) h4; simp; omega
theorem part_short (ss : Nat → ByteArray) (d : Nat) : ∀ (n o m : Nat) (whole : Bool), n ≤ 2 ^ d → 1 ≤ m → m ≤ n → (partS ss o n m whole).length ≤ d + 1 := by
  induction d with
  | zero =>
    intro n o m whole h h1 h2
    obtain rfl : m = n := by have : n ≤ 1 := by simpa using h
                             omega
    cases whole
    · rw [partS_all]; simp
    · rw [partS_whole]; simp
  | succ d ih =>
    intro n o m whole h h1 h2
    by_cases hm : m = n
    · subst hm
      cases whole
      · rw [partS_all]; simp
      · rw [partS_whole]; simp
    · have h6 := half_pos n
      obtain ⟨h3, h4⟩ := half_pow (n := n) (by omega) h
      rcases Nat.lt_or_ge (half n) m with h5 | h5
      · rw [partS_right (by omega) h5]; have := ih (n - half n) (o + half n) (m - half n) false h4 (by omega) (by omega); simp; omega
      · rw [partS_left (by omega) h1 h5]; have := ih (half n) o m whole h3 h1 h5; simp; omega
theorem beside_bits (ss : Nat → ByteArray) (o n i : Nat) : (besideS ss o n i).length ≤ bitsOf n :=
  beside_short ss (bitsOf n) n o i (Nat.le_of_lt (bitsOf_lt n n (Nat.le_refl _)))
theorem beside_mem (ss : Nat → ByteArray) (k : Nat) : ∀ (n o i : Nat), n ≤ k → ∀ x ∈ besideS ss o n i, x.size = 32 := by
  induction k with
  | zero => intro n o i h x hx; rw [besideS_one (by omega)] at hx; cases hx
  | succ k ih =>
    intro n o i h x hx
    rcases Nat.lt_or_ge n 2 with h2 | h2
    · rw [besideS_one (by omega)] at hx; cases hx
    · have h3 := half_pos n
      have h4 := half_lt h2
      rcases Nat.lt_or_ge i (half n) with h5 | h5
      · rw [besideS_left h2 h5, List.mem_append] at hx
        rcases hx with hx | hx
        · exact ih _ _ _ (by omega) x hx
        · simp at hx; subst hx; exact rootS_size _ _ _
      · rw [besideS_right h2 h5, List.mem_append] at hx
        rcases hx with hx | hx
        · exact ih _ _ _ (by omega) x hx
        · simp at hx; subst hx; exact rootS_size _ _ _
theorem part_mem (ss : Nat → ByteArray) (k : Nat) : ∀ (n o m : Nat) (whole : Bool), n ≤ k → ∀ x ∈ partS ss o n m whole, x.size = 32 := by
  induction k with
  | zero =>
    intro n o m whole h x hx
    rw [partS] at hx
    split at hx
    · split at hx
      · cases hx
      · simp at hx; subst hx; exact rootS_size _ _ _
    · rw [dif_pos (by omega)] at hx; cases hx
  | succ k ih =>
    intro n o m whole h x hx
    rw [partS] at hx
    split at hx
    · split at hx
      · cases hx
      · simp at hx; subst hx; exact rootS_size _ _ _
    · split at hx
      · cases hx
      · have h3 := half_pos n
        have h4 := half_lt (n := n) (by omega)
        split at hx
        · rw [List.mem_append] at hx
          rcases hx with hx | hx
          · exact ih _ _ _ _ (by omega) x hx
          · simp at hx; subst hx; exact rootS_size _ _ _
        · rw [List.mem_append] at hx
          rcases hx with hx | hx
          · exact ih _ _ _ _ (by omega) x hx
          · simp at hx; subst hx; exact rootS_size _ _ _
theorem half2 : half 2 = 1 := by decide +kernel
theorem half3 : half 3 = 2 := by decide +kernel
end Putlog
