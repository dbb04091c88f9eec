/- Plain mathematics of CRC-32C, over natural numbers and their XOR. No Go here. -/
namespace Putlog

def poly : Nat := 2197175160
/-- One step of the register. -/
def crcStep (r : Nat) : Nat := r / 2 ^^^ (if r % 2 = 1 then poly else 0)
def crcSteps : Nat → Nat → Nat
  | 0, r => r
  | k + 1, r => crcSteps k (crcStep r)
def crcByte (r b : Nat) : Nat := crcSteps 8 (r ^^^ b)
def crcFrom (r : Nat) (l : List UInt8) : Nat := l.foldl (fun r b => crcByte r b.toNat) r
def crcSum (l : List UInt8) : Nat := 4294967295 - crcFrom 4294967295 l

/-- The table of wire.Sum. -/
def crcTab : List Nat := [0, 274646895, 549293790, 820201905, 1098587580, 1361435347, 1640403810, 1905808397, 2197175160, 2460548119, 2722870694, 2987750089, 3280807620, 3553878443, 3811616794, 4084100981]

theorem xor_div2 (a b : Nat) : (a ^^^ b) / 2 = a / 2 ^^^ b / 2 := by
  have := Nat.shiftRight_xor_distrib (a := a) (b := b) (i := 1)
  simpa [Nat.shiftRight_succ] using this
theorem xor_mod2 (a b : Nat) : (a ^^^ b) % 2 = (a % 2 + b % 2) % 2 := by
  have h : (a ^^^ b) % 2 ^ 1 = a % 2 ^ 1 ^^^ b % 2 ^ 1 := Nat.xor_mod_two_pow
  simp only [Nat.pow_one] at h
  rcases Nat.mod_two_eq_zero_or_one a with ha | ha <;> rcases Nat.mod_two_eq_zero_or_one b with hb | hb <;> rw [h, ha, hb] <;> rfl
theorem crcStep_xor (a b : Nat) : crcStep (a ^^^ b) = crcStep a ^^^ crcStep b := by
  unfold crcStep
  rw [xor_div2, xor_mod2]
  rcases Nat.mod_two_eq_zero_or_one a with ha | ha <;> rcases Nat.mod_two_eq_zero_or_one b with hb | hb <;> simp [ha, hb]
  · rw [Nat.xor_assoc]
  · rw [Nat.xor_assoc, Nat.xor_comm (b / 2), ← Nat.xor_assoc]
  · rw [Nat.xor_assoc, ← Nat.xor_assoc poly, Nat.xor_comm poly (b / 2), Nat.xor_assoc (b / 2), Nat.xor_self, Nat.xor_zero]
theorem crcSteps_xor : ∀ (k a b : Nat), crcSteps k (a ^^^ b) = crcSteps k a ^^^ crcSteps k b
  | 0, _, _ => rfl
  | k + 1, a, b => by simp only [crcSteps, crcStep_xor, crcSteps_xor k]
theorem poly_lt : poly < 2 ^ 32 := by decide
theorem crcStep_lt {r : Nat} (h : r < 2 ^ 32) : crcStep r < 2 ^ 32 := by
  unfold crcStep
  refine Nat.xor_lt_two_pow (by omega) ?_
  split
  · exact poly_lt
  · omega
theorem crcSteps_lt : ∀ (k : Nat) {r : Nat}, r < 2 ^ 32 → crcSteps k r < 2 ^ 32
  | 0, _, h => h
  | k + 1, _, h => crcSteps_lt k (crcStep_lt h)
theorem crcByte_lt {r b : Nat} (hr : r < 2 ^ 32) (hb : b < 2 ^ 32) : crcByte r b < 2 ^ 32 := crcSteps_lt 8 (Nat.xor_lt_two_pow hr hb)
theorem crcFrom_lt : ∀ (l : List UInt8) {r : Nat}, r < 2 ^ 32 → crcFrom r l < 2 ^ 32
  | [], _, h => h
  | b :: l, _, h => crcFrom_lt l (crcByte_lt h (by have := UInt8.toNat_lt b; omega))
theorem crcSteps_add : ∀ (j k r : Nat), crcSteps (j + k) r = crcSteps k (crcSteps j r)
  | 0, k, r => by rw [Nat.zero_add]; rfl
  | j + 1, k, r => by rw [Nat.succ_add]; exact crcSteps_add j k (crcStep r)

/-- Four steps by the table. -/
def crcNibble (r : Nat) : Nat := r / 16 ^^^ crcTab.getD (r % 16) 0
theorem even_step (h : Nat) : crcStep (2 * h) = h := by unfold crcStep; simp
theorem high_steps (h : Nat) : crcSteps 4 (16 * h) = h := by
  show crcStep (crcStep (crcStep (crcStep (16 * h)))) = h
  rw [show 16 * h = 2 * (2 * (2 * (2 * h))) by omega, even_step, even_step, even_step, even_step]
theorem low_steps : ∀ d, d < 16 → crcSteps 4 d = crcTab.getD d 0 := by decide
theorem crcNibble_eq (r : Nat) : crcNibble r = crcSteps 4 r := by
  have e : r = 16 * (r / 16) ^^^ r % 16 := by
    have := Nat.two_pow_add_eq_or_of_lt (i := 4) (b := r % 16) (by omega) (r / 16)
    have h2 : (2 ^ 4 * (r / 16)) &&& (r % 16) = 0 := by
      apply Nat.eq_of_testBit_eq
      intro i
      rw [Nat.testBit_and, Nat.testBit_two_pow_mul]
      by_cases hi : 4 ≤ i
      · have : (r % 16).testBit i = false := Nat.testBit_lt_two_pow (Nat.lt_of_lt_of_le (by omega : r % 16 < 2 ^ 4) (Nat.pow_le_pow_right (by omega) hi))
        simp [this]
      · simp [hi]
    apply Nat.eq_of_testBit_eq
    intro i
    have h3 : r = 2 ^ 4 * (r / 16) + r % 16 := by omega
    conv => lhs; rw [h3, this]
    rw [Nat.testBit_or, Nat.testBit_xor]
    have h4 := congrArg (fun n => Nat.testBit n i) h2
    simp only [Nat.testBit_and, Nat.zero_testBit] at h4
    rw [show 16 * (r / 16) = 2 ^ 4 * (r / 16) by omega]
    clear h3 this h2
    revert h4
    cases (2 ^ 4 * (r / 16)).testBit i <;> cases (r % 16).testBit i <;> simp
  conv => rhs; rw [e]
  rw [crcSteps_xor, high_steps, low_steps _ (by omega)]
  rfl
theorem crcByte_nibbles (r b : Nat) : crcByte r b = crcNibble (crcNibble (r ^^^ b)) := by
  rw [crcNibble_eq, crcNibble_eq, ← crcSteps_add]
  rfl
theorem crcFrom_snoc (r : Nat) (l : List UInt8) (b : UInt8) : crcFrom r (l ++ [b]) = crcByte (crcFrom r l) b.toNat := by
  unfold crcFrom; rw [List.foldl_append]; rfl

def crcNibs : Nat → Nat → Nat
  | 0, x => x
  | j + 1, x => crcNibble (crcNibs j x)
theorem crcNibs_lt {x : Nat} (h : x < 2 ^ 32) : ∀ j, crcNibs j x < 2 ^ 32
  | 0 => h
  | j + 1 => by rw [crcNibs, crcNibble_eq]; exact crcSteps_lt 4 (crcNibs_lt h j)
theorem crcTab_lt (i : Nat) : crcTab.getD i 0 < 4294967296 := by
  by_cases h : i < 16
  · have : ∀ i, i < 16 → crcTab.getD i 0 < 4294967296 := by decide
    exact this i h
  · rw [List.getD_eq_getElem?_getD, List.getElem?_eq_none (by simp [crcTab]; omega)]; decide
theorem crcNibs_two (r b : Nat) : crcNibs 2 (r ^^^ b) = crcByte r b := (crcByte_nibbles r b).symm

end Putlog

namespace Putlog
/-! The checksum is affine. -/
theorem xor3_swap (a b c x y z : Nat) : (a ^^^ b ^^^ c) ^^^ (x ^^^ y ^^^ z) = (a ^^^ x) ^^^ (b ^^^ y) ^^^ (c ^^^ z) := by
  apply Nat.eq_of_testBit_eq
  intro i
  simp only [Nat.testBit_xor]
  cases a.testBit i <;> cases b.testBit i <;> cases c.testBit i <;> cases x.testBit i <;> cases y.testBit i <;> cases z.testBit i <;> rfl
theorem crcByte_xor3 (a b c x y z : Nat) : crcByte (a ^^^ b ^^^ c) (x ^^^ y ^^^ z) = crcByte a x ^^^ crcByte b y ^^^ crcByte c z := by
  unfold crcByte
  rw [xor3_swap, crcSteps_xor, crcSteps_xor]
def xor3 : List UInt8 → List UInt8 → List UInt8 → List UInt8
  | x :: l, y :: m, z :: n => (x ^^^ y ^^^ z) :: xor3 l m n
  | _, _, _ => []
theorem crcFrom_xor3 : ∀ (l m n : List UInt8) (a b c : Nat), l.length = m.length → m.length = n.length → crcFrom (a ^^^ b ^^^ c) (xor3 l m n) = crcFrom a l ^^^ crcFrom b m ^^^ crcFrom c n
  | [], [], [], _, _, _, _, _ => rfl
  | x :: l, y :: m, z :: n, a, b, c, h1, h2 => by
    have ih := crcFrom_xor3 l m n (crcByte a x.toNat) (crcByte b y.toNat) (crcByte c z.toNat) (by simpa using h1) (by simpa using h2)
    rw [← crcByte_xor3] at ih
    have e : (x ^^^ y ^^^ z).toNat = x.toNat ^^^ y.toNat ^^^ z.toNat := by simp
    show crcFrom (crcByte (a ^^^ b ^^^ c) (x ^^^ y ^^^ z).toNat) (xor3 l m n) = crcFrom (crcByte a x.toNat) l ^^^ crcFrom (crcByte b y.toNat) m ^^^ crcFrom (crcByte c z.toNat) n
    rw [e, ih]
theorem not_xor {r : Nat} (h : r < 2 ^ 32) : 4294967295 - r = 4294967295 ^^^ r := by
  have h1 := BitVec.allOnes_xor (x := BitVec.ofNat 32 r)
  have h2 := congrArg BitVec.toNat h1
  rw [BitVec.toNat_xor, BitVec.toNat_not, BitVec.toNat_allOnes, BitVec.toNat_ofNat, Nat.mod_eq_of_lt h] at h2
  have e : (2 ^ 32 - 1 : Nat) = 4294967295 := by decide
  rw [e] at h2
  omega
theorem crcSum_eq (l : List UInt8) : crcSum l = 4294967295 ^^^ crcFrom 4294967295 l := not_xor (crcFrom_lt l (by decide))
theorem crcSum_lt (l : List UInt8) : crcSum l < 2 ^ 32 := by unfold crcSum; omega
theorem crcSum_xor3 (l m n : List UInt8) (h1 : l.length = m.length) (h2 : m.length = n.length) : crcSum (xor3 l m n) = crcSum l ^^^ crcSum m ^^^ crcSum n := by
  have h := crcFrom_xor3 l m n 4294967295 4294967295 4294967295 h1 h2
  rw [show (4294967295 ^^^ 4294967295 ^^^ 4294967295 : Nat) = 4294967295 by decide] at h
  rw [crcSum_eq, crcSum_eq, crcSum_eq, crcSum_eq, h, ← xor3_swap]
  rfl
theorem xor3_length : ∀ (l m n : List UInt8), l.length = m.length → m.length = n.length → (xor3 l m n).length = l.length
  | [], [], [], _, _ => rfl
  | x :: l, y :: m, z :: n, h1, h2 => by simp [xor3, xor3_length l m n (by simpa using h1) (by simpa using h2)]
theorem xor3_get : ∀ (l m n : List UInt8) (j : Nat), l.length = m.length → m.length = n.length → (xor3 l m n).getD j 0 = l.getD j 0 ^^^ m.getD j 0 ^^^ n.getD j 0
  | [], [], [], _, _, _ => by simp [xor3]
  | x :: l, y :: m, z :: n, 0, _, _ => by simp [xor3]
  | x :: l, y :: m, z :: n, j + 1, h1, h2 => by simpa [xor3] using xor3_get l m n j (by simpa using h1) (by simpa using h2)
end Putlog
