/- Plain mathematics of layer 3: columns and carries, quotients and roots in groups of four digits. Nothing of the program. -/
import Derived.Test.YtggkbeppfpgkaaaGreatDoorIntSpec
namespace Putlog

/-- The number of columns, each times its power of the base. -/
def colV : List Int → Int
  | [] => 0
  | x :: l => x + 10000 * colV l
theorem colV_append : ∀ (l r : List Int), colV (l ++ r) = colV l + 10000 ^ l.length * colV r
  | [], r => by simp [colV]
  | x :: l, r => by
    simp only [List.cons_append, colV, colV_append l r, List.length_cons, Int.pow_succ]
    rw [Int.mul_add, Int.add_assoc, Int.mul_comm (10000 ^ l.length) 10000, Int.mul_assoc]
theorem colV_set : ∀ (l : List Int) (i : Nat) (v : Int), i < l.length → colV (l.set i v) = colV l + 10000 ^ i * (v - l.getD i 0)
  | [], _, _, h => by simp at h
  | x :: l, 0, v, _ => by simp [colV]; omega
  | x :: l, i + 1, v, h => by
    have := colV_set l i v (by simpa using h)
    simp only [List.set_cons_succ, colV, this, List.getD_cons_succ, Int.pow_succ]
    rw [Int.mul_add, Int.mul_comm (10000 ^ i) 10000, Int.mul_assoc]; omega
theorem colV_nat : ∀ l : List Nat, colV (l.map fun x : Nat => (x : Int)) = (leV 10000 l : Nat)
  | [] => rfl
  | x :: l => by simp only [List.map_cons, colV, leV, colV_nat l]; omega
theorem colV_zeros (n : Nat) : colV (List.replicate n 0) = 0 := by
  induction n with
  | zero => rfl
  | succ n ih => rw [List.replicate_succ, colV, ih]; rfl
/-- The groups and the carry of columns. -/
def carryO : Int → List Int → Int
  | c, [] => c
  | c, x :: l => carryO ((c + x) / 10000) l
def carryG : Int → List Int → List Nat
  | _, [] => []
  | c, x :: l => ((c + x) % 10000).toNat :: carryG ((c + x) / 10000) l
theorem carry_val : ∀ (l : List Int) (c : Int), c + colV l = (leV 10000 (carryG c l) : Nat) + 10000 ^ l.length * carryO c l
  | [], c => by simp [colV, carryG, carryO, leV]
  | x :: l, c => by
    have h := carry_val l ((c + x) / 10000)
    simp only [colV, carryG, carryO, leV, List.length_cons, Int.pow_succ]
    rw [Int.mul_comm (10000 ^ l.length) 10000, Int.mul_assoc]
    have h1 : ((((c + x) % 10000).toNat : Nat) : Int) = (c + x) % 10000 := Int.toNat_of_nonneg (Int.emod_nonneg _ (by decide))
    rw [Int.natCast_add, h1, Int.natCast_mul]
    have h2 := Int.mul_ediv_add_emod (c + x) 10000
    generalize (10000 : Int) ^ l.length * carryO ((c + x) / 10000) l = y at *
    generalize colV l = z at *
    omega
theorem carryG_dig : ∀ (l : List Int) (c : Int), DigB 10000 (carryG c l)
  | [], _ => DigB.nil _
  | x :: l, c => DigB.cons (by have := Int.emod_lt_of_pos (c + x) (show (0 : Int) < 10000 by decide); have := Int.emod_nonneg (c + x) (show (10000 : Int) ≠ 0 by decide); omega) (carryG_dig l _)
theorem carryG_len : ∀ (l : List Int) (c : Int), (carryG c l).length = l.length
  | [], _ => rfl
  | x :: l, c => by simp [carryG, carryG_len l]
theorem carryO_snoc : ∀ (l : List Int) (c x : Int), carryO c (l ++ [x]) = (carryO c l + x) / 10000
  | [], c, x => rfl
  | y :: l, c, x => by simp only [List.cons_append, carryO]; exact carryO_snoc l _ x
theorem carryG_snoc : ∀ (l : List Int) (c x : Int), carryG c (l ++ [x]) = carryG c l ++ [((carryO c l + x) % 10000).toNat]
  | [], c, x => rfl
  | y :: l, c, x => by simp only [List.cons_append, carryG, carryO]; rw [carryG_snoc l _ x]
def Bnd (M : Int) (l : List Int) : Prop := ∀ x ∈ l, -M ≤ x ∧ x ≤ M
theorem carryO_bound (M : Int) (hM : 1 ≤ M) : ∀ (l : List Int) (c : Int), Bnd M l → -M ≤ c → c ≤ M → -M ≤ carryO c l ∧ carryO c l ≤ M
  | [], c, _, h1, h2 => ⟨h1, h2⟩
  | x :: l, c, hb, h1, h2 => by
    have hx := hb x (List.mem_cons_self ..)
    refine carryO_bound M hM l _ (fun y hy => hb y (List.mem_cons_of_mem _ hy)) ?_ ?_ <;> omega
theorem pow_cast (n : Nat) : ((10000 ^ n : Nat) : Int) = 10000 ^ n := by simp
/-- The groups of columns whose number has at most one group more. -/
theorem carried_spec (l : List Int) (h0 : 0 ≤ colV l) (h1 : colV l < 10000 ^ (l.length + 1)) :
    0 ≤ carryO 0 l ∧ carryO 0 l < 10000 ∧ trimL (carryG 0 l ++ [(carryO 0 l).toNat]) = digsL 10000 (colV l).toNat := by
  have hv := carry_val l 0
  have hd := carryG_dig l 0
  have hlt := leV_lt hd
  rw [carryG_len] at hlt
  have hlt' : ((leV 10000 (carryG 0 l) : Nat) : Int) < 10000 ^ l.length := by rw [← pow_cast]; omega
  rw [Int.pow_succ] at h1
  have hp : (0 : Int) < 10000 ^ l.length := by rw [← pow_cast]; have : 0 < 10000 ^ l.length := Nat.pow_pos (by decide); omega
  have hco : 0 ≤ carryO 0 l ∧ carryO 0 l < 10000 := by
    constructor
    · refine Int.not_lt.1 fun hn => ?_
      have : (10000 : Int) ^ l.length * carryO 0 l ≤ 10000 ^ l.length * (-1) := Int.mul_le_mul_of_nonneg_left (by omega) (by omega)
      omega
    · refine Int.not_le.1 fun hn => ?_
      have : (10000 : Int) ^ l.length * 10000 ≤ 10000 ^ l.length * carryO 0 l := Int.mul_le_mul_of_nonneg_left (by omega) (by omega)
      omega
  refine ⟨hco.1, hco.2, ?_⟩
  have hd2 : DigB 10000 (carryG 0 l ++ [(carryO 0 l).toNat]) := hd.append (DigB.cons (by omega) (DigB.nil _))
  have hval : leV 10000 (trimL (carryG 0 l ++ [(carryO 0 l).toNat])) = (colV l).toNat := by
    rw [trimL_val, leV_snoc, carryG_len]
    have : ((10000 ^ l.length * (carryO 0 l).toNat : Nat) : Int) = 10000 ^ l.length * carryO 0 l := by
      rw [Int.natCast_mul, pow_cast, Int.toNat_of_nonneg hco.1]
    omega
  rw [← hval, digsL_leV (by decide) (trimL_dig hd2) (trimL_norm _)]

theorem leV_drop {B : Nat} (hB : 2 ≤ B) {l : List Nat} (hd : DigB B l) (k : Nat) (hk : k ≤ l.length) : leV B (l.drop k) = leV B l / B ^ k := by
  have h := leV_append B (l.take k) (l.drop k)
  rw [List.take_append_drop] at h
  have h1 : DigB B (l.take k) := fun x hx => hd x (List.mem_of_mem_take hx)
  have h2 := leV_lt h1
  have h3 : (l.take k).length = k := by simp; omega
  rw [h3] at h h2
  rw [h, Nat.add_mul_div_left _ _ (Nat.pow_pos (by omega)), Nat.div_eq_of_lt h2, Nat.zero_add]
theorem leV_take {B : Nat} (_hB : 2 ≤ B) {l : List Nat} (hd : DigB B l) (k : Nat) (hk : k ≤ l.length) : leV B (l.take k) = leV B l % B ^ k := by
  have h := leV_append B (l.take k) (l.drop k)
  rw [List.take_append_drop] at h
  have h1 : DigB B (l.take k) := fun x hx => hd x (List.mem_of_mem_take hx)
  have h2 := leV_lt h1
  have h3 : (l.take k).length = k := by simp; omega
  rw [h3] at h h2
  rw [h, Nat.add_mul_mod_self_left, Nat.mod_eq_of_lt h2]
theorem leV_set (B : Nat) : ∀ (l : List Nat) (i v : Nat), i < l.length → l.getD i 0 = 0 → leV B (l.set i v) = leV B l + B ^ i * v
  | [], _, _, h, _ => by simp at h
  | x :: l, 0, v, _, h0 => by
    have : x = 0 := by simpa using h0
    subst this; simp [leV]; omega
  | x :: l, i + 1, v, h, h0 => by
    have := leV_set B l i v (by simpa using h) (by simpa using h0)
    simp only [List.set_cons_succ, leV, this, Nat.pow_succ]
    rw [Nat.mul_add, Nat.mul_comm (B ^ i) B, Nat.mul_assoc]; omega
/-- What the uppermost groups leave open. -/
theorem group_bounds {A B K : Nat} (hK : 0 < K) (hB : 1 ≤ B / K) : A / K / (B / K + 1) ≤ A / B ∧ A / B ≤ A / K / (B / K) := by
  have hB0 : 0 < B := by
    rcases Nat.eq_zero_or_pos B with h | h
    · subst h; simp at hB
    · exact h
  have a1 : A / K * K ≤ A := Nat.div_mul_le_self A K
  have b1 : B / K * K ≤ B := Nat.div_mul_le_self B K
  have b2 : B < (B / K + 1) * K := by
    have := Nat.lt_div_mul_add hK (a := B); rw [Nat.add_mul]; omega
  constructor
  · refine (Nat.le_div_iff_mul_le hB0).2 ?_
    have h1 : A / K / (B / K + 1) * (B / K + 1) ≤ A / K := Nat.div_mul_le_self _ _
    calc A / K / (B / K + 1) * B ≤ A / K / (B / K + 1) * ((B / K + 1) * K) := Nat.mul_le_mul_left _ (by omega)
      _ = A / K / (B / K + 1) * (B / K + 1) * K := by rw [Nat.mul_assoc]
      _ ≤ A / K * K := Nat.mul_le_mul_right _ h1
      _ ≤ A := a1
  · refine (Nat.le_div_iff_mul_le (by omega)).2 ?_
    refine (Nat.le_div_iff_mul_le hK).2 ?_
    have h1 : A / B * B ≤ A := Nat.div_mul_le_self _ _
    calc A / B * (B / K) * K = A / B * (B / K * K) := by rw [Nat.mul_assoc]
      _ ≤ A / B * B := Nat.mul_le_mul_left _ b1
      _ ≤ A := h1
/-- The first number of which a test holds that stays true. -/
def Firsts (p : Nat → Bool) (n r : Nat) : Prop := r ≤ n ∧ (r = 0 ∨ p (r - 1) = false) ∧ (r = n ∨ p r = true)
theorem group_found {A B least most r : Nat} (hB : 0 < B) (h1 : least ≤ A / B) (h2 : A / B ≤ most) (hr : Firsts (fun m => decide (A < B * (least + m + 1))) (most - least) r) : least + r = A / B := by
  obtain ⟨h3, h4, h5⟩ := hr
  have up : (A / B + 1) * B > A := by have := Nat.lt_div_mul_add hB (a := A); rw [Nat.add_mul]; omega
  rcases Nat.lt_trichotomy (least + r) (A / B) with h | h | h
  · exfalso
    rcases h5 with h5 | h5
    · omega
    · have h6 : A < B * (least + r + 1) := by simpa using h5
      have h7 : (least + r + 1) * B ≤ A := (Nat.le_div_iff_mul_le hB).1 (by omega)
      rw [Nat.mul_comm] at h7; omega
  · exact h
  · exfalso
    rcases h4 with h4 | h4
    · omega
    · have h6 : B * (least + (r - 1) + 1) ≤ A := by simpa using h4
      have h7 : least + (r - 1) + 1 ≤ A / B := (Nat.le_div_iff_mul_le hB).2 (by rw [Nat.mul_comm]; exact h6)
      omega
/-- One step of the long division. -/
theorem long_step {R b P : Nat} (hP : 0 < P) (hb : 0 < b) (hR : R < b * (P * 10000)) :
    R / P / b < 10000 ∧ R = R % P + P * (R / P % b) + P * (R / P / b) * b ∧ R % P + P * (R / P % b) < b * P := by
  have h1 : R / P < b * 10000 := (Nat.div_lt_iff_lt_mul hP).2 (by rw [Nat.mul_assoc, Nat.mul_comm 10000 P]; exact hR)
  have h2 : R / P / b < 10000 := (Nat.div_lt_iff_lt_mul hb).2 (by rw [Nat.mul_comm]; exact h1)
  have h3 := Nat.div_add_mod R P
  have h4 := Nat.div_add_mod (R / P) b
  have h5 := Nat.mod_lt R hP
  have h6 := Nat.mod_lt (R / P) hb
  refine ⟨h2, ?_, ?_⟩
  · have : P * (R / P) = P * (b * (R / P / b)) + P * (R / P % b) := by rw [← Nat.mul_add, h4]
    rw [Nat.mul_assoc P, Nat.mul_comm (R / P / b) b]; omega
  · have : P * (R / P % b + 1) ≤ P * b := Nat.mul_le_mul_left _ h6
    rw [Nat.mul_comm b P]; rw [Nat.mul_add] at this; omega
/-- One step of the root. -/
theorem root_step {A r P k : Nat} (h1 : r * r ≤ A) (h2 : A < (r + P * 10000) * (r + P * 10000))
    (hk : Firsts (fun g => decide (A < (r + P * g) * (r + P * g))) 10000 k) :
    1 ≤ k ∧ (r + P * (k - 1)) * (r + P * (k - 1)) ≤ A ∧ A < (r + P * (k - 1) + P) * (r + P * (k - 1) + P) := by
  obtain ⟨h3, h4, h5⟩ := hk
  have hk1 : 1 ≤ k := by
    rcases Nat.eq_zero_or_pos k with h | h
    · subst h
      rcases h5 with h5 | h5
      · omega
      · have : A < (r + P * 0) * (r + P * 0) := by simpa using h5
        simp at this; omega
    · exact h
  refine ⟨hk1, ?_, ?_⟩
  · rcases h4 with h4 | h4
    · omega
    · simpa using h4
  · have e : r + P * (k - 1) + P = r + P * k := by
      rw [Nat.add_assoc, ← Nat.mul_succ]; congr 2; omega
    rw [e]
    rcases h5 with h5 | h5
    · subst h5; exact h2
    · simpa using h5
end Putlog
