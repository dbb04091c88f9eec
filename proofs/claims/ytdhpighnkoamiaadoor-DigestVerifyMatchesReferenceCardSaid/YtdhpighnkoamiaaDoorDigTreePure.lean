/- Plain mathematics of layer 2: trees of digests. -/
import Derived.Test.YtdhpighnkoamiaaDoorDigPure
namespace Putlog

/-- The digest of a string, as a string. -/
def shaB (s : ByteArray) : ByteArray := ⟨(sha s.data.toList).toArray⟩
theorem shaB_size (s : ByteArray) : (shaB s).size = 32 := by simp [shaB, ByteArray.size, sha_len]
def leafB (s : ByteArray) : ByteArray := shaB ((⟨#[0]⟩ : ByteArray) ++ s)
def nodeB (s t : ByteArray) : ByteArray := shaB ((⟨#[1]⟩ : ByteArray) ++ s ++ t)
def chainB (s t : ByteArray) : ByteArray := shaB ((⟨#[2]⟩ : ByteArray) ++ s ++ t)
/-- The greatest power of two that is less than n. -/
def half (n : Nat) : Nat := 2 ^ Nat.log2 (n - 1)
theorem half_pos (n : Nat) : 1 ≤ half n := Nat.one_le_two_pow
theorem half_le {n : Nat} (h : 2 ≤ n) : half n ≤ n - 1 := Nat.log2_self_le (by omega)
theorem half_lt {n : Nat} (h : 2 ≤ n) : half n < n := by have := half_le h; omega
theorem half_dbl {n : Nat} (h : 2 ≤ n) : n ≤ 2 * half n := by
  have := Nat.lt_log2_self (n := n - 1)
  unfold half
  rw [Nat.pow_succ] at this
  omega
/-- The root of the n strings from place o on. -/
def rootS (ss : Nat → ByteArray) (o n : Nat) : ByteArray :=
  if n = 0 then shaB ByteArray.empty
  else if h : n ≤ 1 then leafB (ss o)
  else nodeB (rootS ss o (half n)) (rootS ss (o + half n) (n - half n))
  termination_by n
  decreasing_by
  · exact half_lt (by omega)
  · have := half_pos n; omega
theorem rootS_zero (ss : Nat → ByteArray) (o : Nat) : rootS ss o 0 = shaB ByteArray.empty := by rw [rootS, if_pos rfl]
theorem rootS_one (ss : Nat → ByteArray) (o : Nat) : rootS ss o 1 = leafB (ss o) := by rw [rootS, if_neg (by decide), dif_pos (by decide)]
theorem rootS_more {ss : Nat → ByteArray} {o n : Nat} (h : 2 ≤ n) : rootS ss o n = nodeB (rootS ss o (half n)) (rootS ss (o + half n) (n - half n)) := by
  rw [rootS, if_neg (by omega), dif_neg (by omega)]
theorem rootS_size (ss : Nat → ByteArray) (o n : Nat) : (rootS ss o n).size = 32 := by
  rw [rootS]
  split
  · exact shaB_size _
  · split <;> exact shaB_size _
/-- The proof of the string with the index i among the n strings from place o on. -/
def besideS (ss : Nat → ByteArray) (o n i : Nat) : List ByteArray :=
  if h : n ≤ 1 then []
  else if i < half n then besideS ss o (half n) i ++ [rootS ss (o + half n) (n - half n)]
  else besideS ss (o + half n) (n - half n) (i - half n) ++ [rootS ss o (half n)]
  termination_by n
  decreasing_by
  · exact half_lt (by omega)
  · have := half_pos n; omega
theorem besideS_one {ss : Nat → ByteArray} {o n i : Nat} (h : n ≤ 1) : besideS ss o n i = [] := by rw [besideS, dif_pos h]
theorem besideS_left {ss : Nat → ByteArray} {o n i : Nat} (h : 2 ≤ n) (hi : i < half n) : besideS ss o n i = besideS ss o (half n) i ++ [rootS ss (o + half n) (n - half n)] := by
  rw [besideS, dif_neg (by omega), if_pos hi]
theorem besideS_right {ss : Nat → ByteArray} {o n i : Nat} (h : 2 ≤ n) (hi : half n ≤ i) : besideS ss o n i = besideS ss (o + half n) (n - half n) (i - half n) ++ [rootS ss o (half n)] := by
  rw [besideS, dif_neg (by omega), if_neg (by omega)]
/-- The value of n, i and the first m strings of a proof of s, and whether the proof has the right length. -/
def valueS (ps : Nat → ByteArray) (s : ByteArray) (n i m : Nat) : ByteArray × Bool :=
  if h : n ≤ 1 then (leafB s, m == 0)
  else if m = 0 then (ByteArray.empty, false)
  else if i < half n then (nodeB (valueS ps s (half n) i (m - 1)).1 (ps (m - 1)), (valueS ps s (half n) i (m - 1)).2)
  else (nodeB (ps (m - 1)) (valueS ps s (n - half n) (i - half n) (m - 1)).1, (valueS ps s (n - half n) (i - half n) (m - 1)).2)
  termination_by n
  decreasing_by
  all_goals first | exact half_lt (by omega) | (have := half_pos n; omega)
theorem valueS_one {ps : Nat → ByteArray} {s : ByteArray} {n i m : Nat} (h : n ≤ 1) : valueS ps s n i m = (leafB s, m == 0) := by rw [valueS, dif_pos h]
theorem valueS_nil {ps : Nat → ByteArray} {s : ByteArray} {n i : Nat} (h : 2 ≤ n) : valueS ps s n i 0 = (ByteArray.empty, false) := by rw [valueS, dif_neg (by omega), if_pos rfl]
theorem valueS_left {ps : Nat → ByteArray} {s : ByteArray} {n i m : Nat} (h : 2 ≤ n) (hi : i < half n) : valueS ps s n i (m + 1) = (nodeB (valueS ps s (half n) i m).1 (ps m), (valueS ps s (half n) i m).2) := by
  rw [valueS, dif_neg (by omega), if_neg (by omega), if_pos hi]; rfl
theorem valueS_right {ps : Nat → ByteArray} {s : ByteArray} {n i m : Nat} (h : 2 ≤ n) (hi : half n ≤ i) : valueS ps s n i (m + 1) = (nodeB (ps m) (valueS ps s (n - half n) (i - half n) m).1, (valueS ps s (n - half n) (i - half n) m).2) := by
  rw [valueS, dif_neg (by omega), if_neg (by omega), if_neg (by omega)]; rfl
theorem valueS_size (ps : Nat → ByteArray) (s : ByteArray) (n i m : Nat) : (valueS ps s n i m).1.size ≤ 32 := by
  rw [valueS]
  split
  · exact Nat.le_of_eq (shaB_size _)
  · split
    · simp
    · split <;> exact Nat.le_of_eq (shaB_size _)
/-- The part of the proof that the first m of n strings begin them. -/
def partS (ss : Nat → ByteArray) (o n m : Nat) (whole : Bool) : List ByteArray :=
  if m = n then (if whole = true then [] else [rootS ss o n])
  else if h : n ≤ 1 then []
  else if m ≤ half n then partS ss o (half n) m whole ++ [rootS ss (o + half n) (n - half n)]
  else partS ss (o + half n) (n - half n) (m - half n) false ++ [rootS ss o (half n)]
  termination_by n
  decreasing_by
  · exact half_lt (by omega)
  · have := half_pos n; omega
theorem partS_whole (ss : Nat → ByteArray) (o n : Nat) : partS ss o n n true = [] := by rw [partS, if_pos rfl, if_pos rfl]
theorem partS_all (ss : Nat → ByteArray) (o n : Nat) : partS ss o n n false = [rootS ss o n] := by rw [partS, if_pos rfl, if_neg (by decide)]
theorem partS_left {ss : Nat → ByteArray} {o n m : Nat} {whole : Bool} (h : m < n) (h0 : 1 ≤ m) (hi : m ≤ half n) : partS ss o n m whole = partS ss o (half n) m whole ++ [rootS ss (o + half n) (n - half n)] := by
  rw [partS, if_neg (by omega), dif_neg (by omega), if_pos hi]
theorem partS_right {ss : Nat → ByteArray} {o n m : Nat} {whole : Bool} (h : m < n) (hi : half n < m) : partS ss o n m whole = partS ss (o + half n) (n - half n) (m - half n) false ++ [rootS ss o (half n)] := by
  have := half_pos n
  rw [partS, if_neg (by omega), dif_neg (by omega), if_neg (by omega)]
/-- The two values of m, n and the first k strings of a proof, and whether the proof has the right length. -/
def twoS (ps : Nat → ByteArray) (old : ByteArray) (m n k : Nat) (whole : Bool) : ByteArray × ByteArray × Bool :=
  if m = n ∧ whole = true then (old, old, k == 0)
  else if k = 0 then (ByteArray.empty, ByteArray.empty, false)
  else if m = n then (ps (k - 1), ps (k - 1), k - 1 == 0)
  else if h : n ≤ 1 then (ByteArray.empty, ByteArray.empty, false)
  else if m ≤ half n then ((twoS ps old m (half n) (k - 1) whole).1, nodeB (twoS ps old m (half n) (k - 1) whole).2.1 (ps (k - 1)), (twoS ps old m (half n) (k - 1) whole).2.2)
  else (nodeB (ps (k - 1)) (twoS ps old (m - half n) (n - half n) (k - 1) false).1, nodeB (ps (k - 1)) (twoS ps old (m - half n) (n - half n) (k - 1) false).2.1, (twoS ps old (m - half n) (n - half n) (k - 1) false).2.2)
  termination_by n
  decreasing_by
  all_goals first | exact half_lt (by omega) | (have := half_pos n; omega)
theorem twoS_whole {ps : Nat → ByteArray} {old : ByteArray} {n k : Nat} : twoS ps old n n k true = (old, old, k == 0) := by rw [twoS, if_pos ⟨rfl, rfl⟩]
theorem twoS_nil {ps : Nat → ByteArray} {old : ByteArray} {m n : Nat} {whole : Bool} (h : ¬ (m = n ∧ whole = true)) : twoS ps old m n 0 whole = (ByteArray.empty, ByteArray.empty, false) := by rw [twoS, if_neg h, if_pos rfl]
theorem twoS_all {ps : Nat → ByteArray} {old : ByteArray} {n k : Nat} : twoS ps old n n (k + 1) false = (ps k, ps k, k == 0) := by
  rw [twoS, if_neg (by simp), if_neg (by omega), if_pos rfl]; rfl
theorem twoS_left {ps : Nat → ByteArray} {old : ByteArray} {m n k : Nat} {whole : Bool} (h : m < n) (h0 : 1 ≤ m) (hi : m ≤ half n) :
    twoS ps old m n (k + 1) whole = ((twoS ps old m (half n) k whole).1, nodeB (twoS ps old m (half n) k whole).2.1 (ps k), (twoS ps old m (half n) k whole).2.2) := by
  rw [twoS, if_neg (by omega), if_neg (by omega), if_neg (by omega), dif_neg (by omega), if_pos hi]; rfl
theorem twoS_right {ps : Nat → ByteArray} {old : ByteArray} {m n k : Nat} {whole : Bool} (h : m < n) (hi : half n < m) :
    twoS ps old m n (k + 1) whole = (nodeB (ps k) (twoS ps old (m - half n) (n - half n) k false).1, nodeB (ps k) (twoS ps old (m - half n) (n - half n) k false).2.1, (twoS ps old (m - half n) (n - half n) k false).2.2) := by
  have := half_pos n
  rw [twoS, if_neg (by omega), if_neg (by omega), if_neg (by omega), dif_neg (by omega), if_neg (by omega)]; rfl
end Putlog
