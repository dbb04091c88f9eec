/- What the laws of layer 3 take of the code: a contract for each exported function, in terms of numbers. -/
import Derived.Test.YtggkbeppfpgkaaaGreatDoorIntMade
namespace Go.Proofs.YtggkbeppfpgkaaaGreatDoor
open Go.RowKit Putlog

def okS (z : Int) : ByteArray := if Fits z then intB z else ⟨#[]⟩
def okE (z : Int) : Int := if Fits z then 0 else 30
theorem okS_fits {z : Int} (h : Fits z) : okS z = intB z := if_pos h
theorem okE_fits {z : Int} (h : Fits z) : okE z = 0 := if_pos h
def GivesInt (x : ByteArray) (k : Int) (w : World) (e : Ending) (w' : World) : Prop := e = .returned (.tuple #[.string x, .int .i64 k]) ∧ Below w.heap.size w w'
def cmpI (a b : Int) : Int := if a < b then -1 else if b < a then 1 else 0
/-- The contracts. -/
structure Api : Prop where
  add : ∀ (a b : Int) (w : World), Fits a → Fits b → Calls Tryz.prog 7 #[.string (intB a), .string (intB b)] w (GivesInt (okS (a + b)) (okE (a + b)) w)
  sub : ∀ (a b : Int) (w : World), Fits a → Fits b → Calls Tryz.prog 9 #[.string (intB a), .string (intB b)] w (GivesInt (okS (a - b)) (okE (a - b)) w)
  mul : ∀ (a b : Int) (w : World), Fits a → Fits b → Calls Tryz.prog 11 #[.string (intB a), .string (intB b)] w (GivesInt (okS (a * b)) (okE (a * b)) w)
  div : ∀ (a b : Int) (w : World), Fits a → Fits b → b ≠ 0 → Calls Tryz.prog 13 #[.string (intB a), .string (intB b)] w fun e w' => e = .returned (.tuple #[.string (intB (a / b)), .string (intB (a % b)), .int .i64 0]) ∧ Below w.heap.size w w'
  divNo : ∀ (a : Int) (w : World), Fits a → Calls Tryz.prog 13 #[.string (intB a), .string (intB 0)] w fun e w' => e = .returned (.tuple #[.string ⟨#[]⟩, .string ⟨#[]⟩, .int .i64 30]) ∧ Below w.heap.size w w'
  cmp : ∀ (a b : Int) (w : World), Fits a → Fits b → Calls Tryz.prog 23 #[.string (intB a), .string (intB b)] w fun e w' => e = .returned (.int .i64 (cmpI a b)) ∧ Below w.heap.size w w'
  valid : ∀ (s : ByteArray) (w : World), (s.size : Int) ≤ 9223372036854775807 → Calls Tryz.prog 21 #[.string s] w fun e w' => e = .returned (.bool (validT s.data.toList)) ∧ Below w.heap.size w w'
theorem fits_of {z : Int} {k : Nat} (h : z.natAbs < 10 ^ k) (hk : k ≤ 200) : Fits z := Nat.lt_of_lt_of_le h (Nat.pow_le_pow_right (by decide) hk)
theorem abs_add {a b : Int} {k : Nat} (ha : a.natAbs < 10 ^ k) (hb : b.natAbs < 10 ^ k) : (a + b).natAbs < 10 ^ (k + 1) := by rw [Nat.pow_succ]; omega
theorem abs_sub {a b : Int} {k : Nat} (ha : a.natAbs < 10 ^ k) (hb : b.natAbs < 10 ^ k) : (a - b).natAbs < 10 ^ (k + 1) := by rw [Nat.pow_succ]; omega
theorem abs_mul {a b : Int} {j k : Nat} (ha : a.natAbs < 10 ^ j) (hb : b.natAbs < 10 ^ k) : (a * b).natAbs < 10 ^ (j + k) := by
  rw [Int.natAbs_mul, Nat.pow_add]
  exact Nat.mul_lt_mul_of_lt_of_le ha (Nat.le_of_lt hb) (Nat.pow_pos (by decide))
theorem abs_up {a : Int} {j k : Nat} (ha : a.natAbs < 10 ^ j) (h : j ≤ k) : a.natAbs < 10 ^ k := Nat.lt_of_lt_of_le ha (Nat.pow_le_pow_right (by decide) h)
theorem c_add (H : Api) (a b r : Int) (w : World) (ha : Fits a) (hb : Fits b) (hr : Fits r) (e : a + b = r) :
    Calls Tryz.prog 7 #[.string (intB a), .string (intB b)] w fun e w' => e = .returned (.tuple #[.string (intB r), .int .i64 0]) ∧ Below w.heap.size w w' := by
  have h := H.add a b w ha hb
  rw [e, okS_fits hr, okE_fits hr] at h
  exact h
theorem c_sub (H : Api) (a b r : Int) (w : World) (ha : Fits a) (hb : Fits b) (hr : Fits r) (e : a - b = r) :
    Calls Tryz.prog 9 #[.string (intB a), .string (intB b)] w fun e w' => e = .returned (.tuple #[.string (intB r), .int .i64 0]) ∧ Below w.heap.size w w' := by
  have h := H.sub a b w ha hb
  rw [e, okS_fits hr, okE_fits hr] at h
  exact h
theorem c_mul (H : Api) (a b r : Int) (w : World) (ha : Fits a) (hb : Fits b) (hr : Fits r) (e : a * b = r) :
    Calls Tryz.prog 11 #[.string (intB a), .string (intB b)] w fun e w' => e = .returned (.tuple #[.string (intB r), .int .i64 0]) ∧ Below w.heap.size w w' := by
  have h := H.mul a b w ha hb
  rw [e, okS_fits hr, okE_fits hr] at h
  exact h
theorem intB_zero : intB 0 = ⟨#[48]⟩ := by decide +kernel
theorem intB_one : intB 1 = ⟨#[49]⟩ := by decide +kernel
theorem c_div (H : Api) (a b q r : Int) (w : World) (ha : Fits a) (hb : Fits b) (h0 : b ≠ 0) (e1 : a / b = q) (e2 : a % b = r) :
    Calls Tryz.prog 13 #[.string (intB a), .string (intB b)] w fun e w' => e = .returned (.tuple #[.string (intB q), .string (intB r), .int .i64 0]) ∧ Below w.heap.size w w' := by
  have h := H.div a b w ha hb h0
  rwa [e1, e2] at h
theorem c_cmp (H : Api) (a b k : Int) (w : World) (ha : Fits a) (hb : Fits b) (e : cmpI a b = k) :
    Calls Tryz.prog 23 #[.string (intB a), .string (intB b)] w fun e w' => e = .returned (.int .i64 k) ∧ Below w.heap.size w w' := by
  have h := H.cmp a b w ha hb
  rwa [e] at h
theorem intT_size {z : Int} {k : Nat} (h : z.natAbs < 10 ^ k) (hk : 1 ≤ k) : (intB z).size ≤ k + 1 := by
  have h1 := (natT_len z.natAbs k hk).2 h
  show (intT z).toArray.size ≤ k + 1
  rw [List.size_toArray]
  unfold intT
  split
  · simp; omega
  · omega
theorem c_valid (H : Api) (z : Int) (w : World) (h : Fits z) :
    Calls Tryz.prog 21 #[.string (intB z)] w fun e w' => e = .returned (.bool true) ∧ Below w.heap.size w w' := by
  have h1 := intT_size h (by decide)
  have h2 := H.valid (intB z) w (by omega)
  have h3 : validT (intB z).data.toList = true := by
    show validT (intT z).toArray.toList = true
    rw [List.toList_toArray]; exact (validT_int z).2 h
  rwa [h3] at h2
theorem isZero_no {z : Int} (h : z ≠ 0) : ((intB z).toList == [48]) = false := by
  have h1 : (intB 0).toList = [48] := by decide +kernel
  have h2 : (intB z).toList ≠ (intB 0).toList := fun e => h (intT_inj (by simpa [ByteArray.toList_eq, intB] using e))
  rw [h1] at h2
  simpa using h2
theorem intB_ne {a b : Int} : ((intB a).toList == (intB b).toList) = decide (a = b) := by
  by_cases h : a = b
  · subst h; simp
  · have : (intB a).toList ≠ (intB b).toList := fun e => h (intT_inj (by simpa [ByteArray.toList_eq, intB] using e))
    simp [h, this]
end Go.Proofs.YtggkbeppfpgkaaaGreatDoor
