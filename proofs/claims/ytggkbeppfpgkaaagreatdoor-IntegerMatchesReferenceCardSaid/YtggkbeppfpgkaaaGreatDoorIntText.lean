/- Plain mathematics of layer 3: groups of four digits and decimal texts. Nothing of the program. -/
import Derived.Test.YtggkbeppfpgkaaaGreatDoorIntMag
namespace Putlog

/-- The four digits of a group, the lowest first. -/
def dig4 (g : Nat) : List Nat := [g % 10, g / 10 % 10, g / 10 / 10 % 10, g / 10 / 10 / 10 % 10]
def dig10 : List Nat → List Nat
  | [] => []
  | g :: l => dig4 g ++ dig10 l
theorem dig10_snoc : ∀ (l : List Nat) (g : Nat), dig10 (l ++ [g]) = dig10 l ++ dig4 g
  | [], g => by simp [dig10]
  | x :: l, g => by simp only [List.cons_append, dig10, dig10_snoc l g, List.append_assoc]
theorem dig10_len : ∀ l : List Nat, (dig10 l).length = 4 * l.length
  | [] => rfl
  | x :: l => by simp only [dig10, List.length_append, dig10_len l, List.length_cons, dig4, List.length_nil]; omega
theorem dig4_dig (g : Nat) : DigB 10 (dig4 g) := fun x hx => by
  simp only [dig4, List.mem_cons, List.not_mem_nil, or_false] at hx
  omega
theorem dig10_dig : ∀ l : List Nat, DigB 10 (dig10 l)
  | [] => DigB.nil _
  | g :: l => (dig4_dig g).append (dig10_dig l)
theorem dig4_val {g : Nat} (h : g < 10000) : leV 10 (dig4 g) = g := by simp only [dig4, leV]; omega
theorem dig10_val : ∀ l : List Nat, DigB 10000 l → leV 10 (dig10 l) = leV 10000 l
  | [], _ => rfl
  | g :: l, h => by
    have h1 := dig4_val (h g (List.mem_cons_self ..))
    have h2 : 10 ^ (dig4 g).length = 10000 := by show 10 ^ 4 = 10000; decide
    rw [dig10, leV_append, h1, dig10_val l h.tail, leV, h2]
theorem dropWhile_map {α β : Type} (f : α → β) (p : β → Bool) (q : α → Bool) : ∀ l : List α, (∀ x ∈ l, p (f x) = q x) → (l.map f).dropWhile p = (l.dropWhile q).map f
  | [], _ => rfl
  | x :: l, h => by
    have hx := h x (List.mem_cons_self ..)
    have ht := dropWhile_map f p q l fun y hy => h y (List.mem_cons_of_mem _ hy)
    simp only [List.map_cons, List.dropWhile_cons, hx]
    split
    · exact ht
    · simp
/-- The text of a magnitude: the digits without zeros in front. -/
theorem text_trim {l : List Nat} (hd : DigB 10 l) : ((l.reverse.map chr10).dropWhile (· == 48)) = (trimL l).reverse.map chr10 := by
  rw [dropWhile_map chr10 (· == 48) (· == 0)]
  · unfold trimL; rw [List.reverse_reverse]
  · intro x hx
    have h := hd x (List.mem_reverse.1 hx)
    by_cases e : x = 0
    · subst e; decide
    · have : chr10 x ≠ 48 := fun h2 => by
        have h3 : (chr10 x).toNat = (48 : UInt8).toNat := by rw [h2]
        rw [chr10_toNat h, show (48 : UInt8).toNat = 48 from rfl] at h3
        omega
      rw [beq_eq_false_iff_ne.2 this, beq_eq_false_iff_ne.2 e]
theorem text_groups {l : List Nat} (hd : DigB 10000 l) (hn : Norm l) (h0 : l ≠ []) : (((dig10 l).reverse.map chr10).dropWhile (· == 48)) = natT (leV 10000 l) := by
  have h1 : trimL (dig10 l) = digsL 10 (leV 10000 l) := by
    rw [← dig10_val l hd, ← trimL_val 10 (dig10 l), digsL_leV (by decide) (trimL_dig (dig10_dig l)) (trimL_norm _)]
  have h2 := leV_pos (B := 10000) (by decide) hn h0
  rw [text_trim (dig10_dig l), h1, natT, if_neg (by omega)]
/-- The groups of digits, the lowest first: the first k of them. -/
def grpL (l : List Nat) (k : Nat) : List Nat := (List.range k).map fun i => leV 10 ((l.drop (4 * i)).take 4)
theorem grpL_len (l : List Nat) (k : Nat) : (grpL l k).length = k := by simp [grpL]
theorem grpL_succ (l : List Nat) (k : Nat) : grpL l (k + 1) = grpL l k ++ [leV 10 ((l.drop (4 * k)).take 4)] := by simp [grpL, List.range_succ]
theorem take4_lt {l : List Nat} (h : DigB 10 l) (k : Nat) : leV 10 ((l.drop k).take 4) < 10000 := by
  have h1 : DigB 10 ((l.drop k).take 4) := fun x hx => h x (List.mem_of_mem_drop (List.mem_of_mem_take hx))
  have h2 := leV_lt h1
  have h3 : 10 ^ ((l.drop k).take 4).length ≤ 10 ^ 4 := Nat.pow_le_pow_right (by decide) (by simp; omega)
  omega
theorem grpL_dig {l : List Nat} (h : DigB 10 l) (k : Nat) : DigB 10000 (grpL l k) := fun x hx => by
  obtain ⟨i, _, rfl⟩ := List.mem_map.1 hx
  exact take4_lt h _
theorem grpL_val {l : List Nat} : ∀ k : Nat, leV 10000 (grpL l k) = leV 10 (l.take (4 * k))
  | 0 => by simp [grpL, leV]
  | k + 1 => by
    rw [grpL_succ, leV_snoc, grpL_len, grpL_val k]
    have e : l.take (4 * (k + 1)) = l.take (4 * k) ++ (l.drop (4 * k)).take 4 := by
      rw [show 4 * (k + 1) = 4 * k + 4 by omega, List.take_add]
    rw [e, leV_append]
    rcases Nat.lt_or_ge l.length (4 * k) with h | h
    · rw [List.drop_of_length_le (by omega)]; simp [leV]
    · have : (l.take (4 * k)).length = 4 * k := by simp; omega
      rw [this, Nat.pow_mul]
theorem grpL_all {l : List Nat} {k : Nat} (h : l.length ≤ 4 * k) : leV 10000 (grpL l k) = leV 10 l := by
  rw [grpL_val, List.take_of_length_le h]
theorem grp_trim {l : List Nat} (hd : DigB 10 l) {k : Nat} (h : l.length ≤ 4 * k) : trimL (grpL l k) = digsL 10000 (leV 10 l) := by
  rw [← grpL_all h, ← trimL_val 10000 (grpL l k), digsL_leV (by decide) (trimL_dig (grpL_dig hd k)) (trimL_norm _)]
/-- Digits read one after the other, the highest first. -/
theorem decT_snoc (l : List UInt8) (c : UInt8) : decT (l ++ [c]) = (c.toNat - 48) :: decT l := by simp [decT]
theorem decT_len (l : List UInt8) : (decT l).length = l.length := by simp [decT]
theorem decT_dig {l : List UInt8} (h : ∀ c ∈ l, IsDig c) : DigB 10 (decT l) := fun x hx => by
  obtain ⟨c, hc, rfl⟩ := List.mem_map.1 hx
  have := h c (by simpa using hc)
  unfold IsDig at this; omega
/-- The bytes from index a to b are the digits from n - b to n - a. -/
theorem decT_part (l : List UInt8) {a b : Nat} (hb : b ≤ l.length) : decT ((l.take b).drop a) = ((decT l).drop (l.length - b)).take (b - a) := by
  unfold decT
  rw [← List.map_drop, ← List.map_take]
  congr 1
  rw [List.reverse_drop, List.length_take, Nat.min_eq_left hb, List.reverse_take]
theorem natV_lt {l : List UInt8} (h : ∀ c ∈ l, IsDig c) : natV l < 10 ^ l.length := by
  have := leV_lt (decT_dig h)
  rwa [decT_len] at this
/-- What the number of a text of digits is. -/
theorem natV_natT (n : Nat) : leV 10 (decT (natT n)) = n := natT_val n
theorem digsL_len4 {n : Nat} (h : n < 10 ^ 200) : (digsL 10000 n).length ≤ 50 := (digsL_len (by decide) n 50).2 (by rw [show (10000 : Nat) = 10 ^ 4 from rfl, ← Nat.pow_mul]; exact h)
/-- The greatest number whose square is at most n: the groups of the root. -/
theorem root_len {r A n : Nat} (h : r * r ≤ A) (hA : A < 10000 ^ n) : r < 10000 ^ ((n + 1) / 2) := by
  refine Nat.lt_of_not_le fun h1 => ?_
  have h2 : 10000 ^ ((n + 1) / 2) * 10000 ^ ((n + 1) / 2) ≤ r * r := Nat.mul_le_mul h1 h1
  rw [← Nat.pow_add] at h2
  have h3 : 10000 ^ n ≤ 10000 ^ ((n + 1) / 2 + (n + 1) / 2) := Nat.pow_le_pow_right (by decide) (by omega)
  omega
theorem root_norm {R : List Nat} {A : List Nat} (hd : DigB 10000 R) (_hA : DigB 10000 A) (nA : Norm A) (hl : R.length = (A.length + 1) / 2) (h : leV 10000 A < (leV 10000 R + 1) * (leV 10000 R + 1)) : Norm R := by
  rcases norm_cases R with rfl | ⟨r, x, rfl⟩
  · exact Norm.nil
  · by_cases hx : x = 0
    · exfalso
      subst hx
      rcases norm_cases A with rfl | ⟨a, y, rfl⟩
      · simp at hl
      · have h1 := norm_ge (B := 10000) (by decide) nA
        rw [leV_snoc 10000 r 0, Nat.mul_zero, Nat.add_zero] at h
        have h2 : DigB 10000 r := hd.left
        have h3 := leV_lt h2
        simp only [List.length_append, List.length_singleton] at hl
        have h4 : (leV 10000 r + 1) * (leV 10000 r + 1) ≤ 10000 ^ r.length * 10000 ^ r.length := Nat.mul_le_mul (by omega) (by omega)
        rw [← Nat.pow_add] at h4
        have h5 : 10000 ^ (r.length + r.length) ≤ 10000 ^ a.length := Nat.pow_le_pow_right (by decide) (by omega)
        omega
    · exact Norm.snoc hx
end Putlog
