/- Plain mathematics of layer 1 (wire): the encoding of integers and strings as lists of bytes, and its inverse. No Go here. -/
namespace Putlog

/-- The number that is encoded for n. -/
def zig (n : Int) : Nat := if n < 0 then (-2 * n - 1).toNat else (2 * n).toNat
def zag (z : Nat) : Int := if z % 2 = 1 then -((z / 2 : Nat) : Int) - 1 else ((z / 2 : Nat) : Int)
/-- Unsigned LEB128. -/
def leb (z : Nat) : List UInt8 := if z < 128 then [UInt8.ofNat z] else UInt8.ofNat (z % 128 + 128) :: leb (z / 128)
termination_by z
decreasing_by omega

theorem leb_lt {z : Nat} (h : z < 128) : leb z = [UInt8.ofNat z] := by rw [leb, if_pos h]
theorem leb_ge {z : Nat} (h : 128 ≤ z) : leb z = UInt8.ofNat (z % 128 + 128) :: leb (z / 128) := by rw [leb, if_neg (by omega)]
theorem leb_ne (z : Nat) : leb z ≠ [] := by unfold leb; split <;> simp
theorem leb_len_pos (z : Nat) : 0 < (leb z).length := List.length_pos_iff.2 (leb_ne z)
theorem leb_len_le : ∀ (k z : Nat), z < 128 ^ (k + 1) → (leb z).length ≤ k + 1 := by
  intro k
  induction k with
  | zero => intro z h; rw [leb_lt (by simpa using h)]; simp
  | succ k ih =>
    intro z h
    by_cases hz : z < 128
    · rw [leb_lt hz]; simp
    · rw [leb_ge (by omega)]
      have : z / 128 < 128 ^ (k + 1) := by
        rw [Nat.div_lt_iff_lt_mul (by omega)]; rw [Nat.pow_succ] at h; exact h
      have := ih _ this
      simp; omega
theorem zig_lt {n : Int} (h1 : -4611686018427387903 ≤ n) (h2 : n ≤ 4611686018427387903) : zig n ≤ 9223372036854775806 := by
  unfold zig; split <;> omega
theorem zag_zig (n : Int) : zag (zig n) = n := by unfold zag zig; split <;> split <;> omega
theorem zig_zag (z : Nat) : zig (zag z) = z := by unfold zag zig; split <;> split <;> omega

def enc (n : Int) : List UInt8 := leb (zig n)
theorem enc_len_le {n : Int} (h1 : -4611686018427387903 ≤ n) (h2 : n ≤ 4611686018427387903) : (enc n).length ≤ 9 :=
  leb_len_le 8 _ (by have := zig_lt h1 h2; omega)
theorem enc_len_pos (n : Int) : 0 < (enc n).length := leb_len_pos _


/-- The laws' pick. -/
def pickZ (c n : Int) : Int := (if c < 0 then -(c + 1) else c) % n
theorem pickZ_nonneg (c : Int) {n : Int} (h : 1 ≤ n) : 0 ≤ pickZ c n := Int.emod_nonneg _ (by omega)
theorem pickZ_lt (c : Int) {n : Int} (h : 1 ≤ n) : pickZ c n < n := Int.emod_lt_of_pos _ (by omega)

/-- The bytes of leb, as integers. -/
def lebI (z : Nat) : List Int := if z < 128 then [(z : Int)] else ((z : Int) % 128 + 128) :: lebI (z / 128)
termination_by z
decreasing_by omega
theorem lebI_lt {z : Nat} (h : z < 128) : lebI z = [(z : Int)] := by rw [lebI, if_pos h]
theorem lebI_ge {z : Nat} (h : 128 ≤ z) : lebI z = ((z : Int) % 128 + 128) :: lebI (z / 128) := by rw [lebI, if_neg (by omega)]
theorem lebI_eq (z : Nat) : lebI z = (leb z).map fun b => (b.toNat : Int) := by
  induction z using Nat.strongRecOn with
  | _ z ih =>
    by_cases h : z < 128
    · rw [lebI_lt h, leb_lt h]; simp; omega
    · rw [lebI_ge (by omega), leb_ge (by omega), ih (z / 128) (by omega)]; simp; omega
theorem lebI_len (z : Nat) : (lebI z).length = (leb z).length := by rw [lebI_eq]; simp

/-- What Int reads from group i on, z being the sum of the groups before. -/
def dec (i z : Nat) : List UInt8 → Option (Nat × Nat)
  | [] => none
  | b :: l => if 9 ≤ i then none else if 128 ≤ b.toNat then dec (i + 1) (z + b.toNat % 128 * 128 ^ i) l
    else if (b.toNat = 0 ∧ 0 < i) ∨ 9223372036854775806 < z + b.toNat % 128 * 128 ^ i then none else some (z + b.toNat % 128 * 128 ^ i, i + 1)


theorem dec_sound : ∀ (l : List UInt8) (i z y k : Nat), dec i z l = some (y, k) → ∃ r, y = z + r * 128 ^ i ∧ k = i + (leb r).length ∧ l.take (leb r).length = leb r ∧ (0 < i → r ≠ 0) ∧ y ≤ 9223372036854775806
  | [], i, z, y, k, h => by simp [dec] at h
  | b :: l, i, z, y, k, h => by
    have hb := UInt8.toNat_lt b
    rw [dec] at h
    split at h
    · cases h
    · split at h
      · rename_i h128
        obtain ⟨r, hy, hk, ht, hr, hm⟩ := dec_sound l _ _ _ _ h
        have hr0 := hr (by omega)
        have e1 : (b.toNat % 128 + 128 * r) / 128 = r := by omega
        have e2 : UInt8.ofNat ((b.toNat % 128 + 128 * r) % 128 + 128) = b := by
          rw [show (b.toNat % 128 + 128 * r) % 128 + 128 = b.toNat by omega]; simp
        have e3 : leb (b.toNat % 128 + 128 * r) = b :: leb r := by rw [leb_ge (by omega), e1, e2]
        refine ⟨b.toNat % 128 + 128 * r, ?_, ?_, ?_, fun _ => by omega, hm⟩
        · rw [hy, Nat.pow_succ, Nat.add_mul]
          rw [show r * (128 ^ i * 128) = 128 * r * 128 ^ i by rw [← Nat.mul_assoc, Nat.mul_comm (r * 128 ^ i), Nat.mul_assoc]]
          omega
        · rw [e3, hk]; simp; omega
        · rw [e3]; simp [ht]
      · split at h
        · cases h
        · rename_i h1 h2 h3
          simp only [Option.some.injEq, Prod.mk.injEq] at h
          have e : leb b.toNat = [b] := by rw [leb_lt (by omega)]; simp
          have hmod : b.toNat % 128 = b.toNat := by omega
          rw [hmod] at h h3
          exact ⟨b.toNat, h.1.symm, by rw [e]; exact h.2.symm, by rw [e]; rfl, fun hi h0 => h3 (.inl ⟨h0, hi⟩), by omega⟩

theorem dec_complete (r : Nat) : ∀ (i z : Nat) (q : List UInt8), i + (leb r).length ≤ 9 → (0 < i → r ≠ 0) → z + r * 128 ^ i ≤ 9223372036854775806 → dec i z (leb r ++ q) = some (z + r * 128 ^ i, i + (leb r).length) := by
  induction r using Nat.strongRecOn with
  | _ r ih =>
    intro i z q h9 hr hm
    by_cases h : r < 128
    · rw [leb_lt h] at h9 ⊢
      simp only [List.length_singleton] at h9 ⊢
      have e : (UInt8.ofNat r).toNat = r := by simp; omega
      have e2 : r % 128 = r := by omega
      simp only [List.singleton_append]
      rw [dec, if_neg (by omega), e, if_neg (by omega), e2, if_neg]
      rintro (⟨h0, hi⟩ | h)
      · exact hr hi h0
      · omega
    · rw [leb_ge (by omega)] at h9 ⊢
      have e : (UInt8.ofNat (r % 128 + 128)).toNat = r % 128 + 128 := by simp; omega
      have e3 : (z + (r % 128 + 128) % 128 * 128 ^ i) + r / 128 * 128 ^ (i + 1) = z + r * 128 ^ i := by
        rw [show (r % 128 + 128) % 128 = r % 128 by omega, Nat.pow_succ]
        have : r = r % 128 + 128 * (r / 128) := by omega
        conv => rhs; rw [this, Nat.add_mul]
        rw [show r / 128 * (128 ^ i * 128) = 128 * (r / 128) * 128 ^ i by rw [← Nat.mul_assoc, Nat.mul_comm (r / 128 * 128 ^ i), Nat.mul_assoc]]
        omega
      simp only [List.length_cons] at h9 ⊢
      rw [List.cons_append, dec, if_neg (by omega), e, if_pos (by omega), ih (r / 128) (by omega) _ _ _ (by omega) (fun _ => by omega) (by omega), e3]
      congr 2; omega

/-- Int undoes PutInt, whatever follows. -/
theorem dec_leb (z : Nat) (q : List UInt8) (h : z ≤ 9223372036854775806) : dec 0 0 (leb z ++ q) = some (z, (leb z).length) := by
  have hl := leb_len_le 8 z (by omega)
  have := dec_complete z 0 0 q (by omega) (by omega) (by simpa using h)
  simpa using this
/-- What Int accepts is what PutInt returns. -/
theorem dec_some {l : List UInt8} {z k : Nat} (h : dec 0 0 l = some (z, k)) : z ≤ 9223372036854775806 ∧ k = (leb z).length ∧ l.take k = leb z := by
  obtain ⟨r, hy, hk, ht, _, hm⟩ := dec_sound l 0 0 z k h
  simp at hy
  subst hy
  simp at hk
  subst hk
  exact ⟨hm, rfl, ht⟩
theorem dec_le {l : List UInt8} {z k : Nat} (h : dec 0 0 l = some (z, k)) : k ≤ l.length := by
  obtain ⟨_, hk, ht⟩ := dec_some h
  have := congrArg List.length ht
  rw [List.length_take, ← hk] at this
  omega
theorem zag_bd {z : Nat} (h : z ≤ 9223372036854775806) : -4611686018427387903 ≤ zag z ∧ zag z ≤ 4611686018427387903 := by
  unfold zag; split <;> omega

end Putlog
