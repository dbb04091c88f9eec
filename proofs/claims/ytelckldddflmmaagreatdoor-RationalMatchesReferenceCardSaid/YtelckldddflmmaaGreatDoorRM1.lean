/- Several texts of layers 3 and 4, one behind the other: IntPure, IntSpec, IntKit, IntRef, IntMag, IntMem, IntTrim, IntCarry, IntCarried, IntSums, IntMinus, IntTimes, IntApi, IntCompare, IntSearch, IntGroup. -/
import Derived.WalkKit
import Derived.WalkSpells
import Derived.WalkLawsBesides
import Derived.Lib.Hide
import Derived.Laws.Rows
import Derived.Laws.CopyOwn
import Derived.Laws.BytesArg
import Derived.Laws.BitsAllLaws
import Derived.IntWalk
import Derived.BigQuiet
import Derived.Deep.QuietTactic
import Derived.Deep.RegionHeld3
import Derived.Deep.RegionLawGrows
import Derived.OneCell
import Derived.Lib.SliceRun
import Derived.Laws.OwnMore
import Derived.Laws.EntriesVeiled
import Derived.Test.YtelckldddflmmaaGreatDoorRows
import Derived.Test.YtelckldddflmmaaGreatDoorShelf
/- IntPure: Plain mathematics of layer 3: lists of digits to a base, the lowest one first; the decimal text of a number. Nothing of the program. -/
namespace Putlog

/-- The number of a list of digits to the base B, the lowest one first. -/
def leV (B : Nat) : List Nat → Nat
  | [] => 0
  | x :: l => x + B * leV B l
theorem leV_append (B : Nat) : ∀ (l r : List Nat), leV B (l ++ r) = leV B l + B ^ l.length * leV B r
  | [], r => by simp [leV]
  | x :: l, r => by
    simp only [List.cons_append, leV, leV_append B l r, List.length_cons, Nat.pow_succ]
    rw [Nat.mul_add, Nat.add_assoc, Nat.mul_comm (B ^ l.length) B, Nat.mul_assoc]
theorem leV_snoc (B : Nat) (l : List Nat) (x : Nat) : leV B (l ++ [x]) = leV B l + B ^ l.length * x := by
  rw [leV_append]; simp [leV]
theorem leV_zeros (B n : Nat) : leV B (List.replicate n 0) = 0 := by
  induction n with
  | zero => rfl
  | succ n ih => rw [List.replicate_succ, leV, ih]; rfl
/-- All digits are less than the base. -/
def DigB (B : Nat) (l : List Nat) : Prop := ∀ x ∈ l, x < B
theorem DigB.nil (B : Nat) : DigB B [] := fun x h => by cases h
theorem DigB.cons {B x : Nat} {l : List Nat} (hx : x < B) (h : DigB B l) : DigB B (x :: l) := fun y hy => by
  rcases List.mem_cons.1 hy with rfl | hy
  · exact hx
  · exact h y hy
theorem DigB.tail {B x : Nat} {l : List Nat} (h : DigB B (x :: l)) : DigB B l := fun y hy => h y (List.mem_cons_of_mem _ hy)
theorem DigB.append {B : Nat} {l r : List Nat} (h : DigB B l) (k : DigB B r) : DigB B (l ++ r) := fun y hy => (List.mem_append.1 hy).elim (h y) (k y)
theorem DigB.left {B : Nat} {l r : List Nat} (h : DigB B (l ++ r)) : DigB B l := fun y hy => h y (List.mem_append_left _ hy)
theorem DigB.right {B : Nat} {l r : List Nat} (h : DigB B (l ++ r)) : DigB B r := fun y hy => h y (List.mem_append_right _ hy)
theorem leV_lt {B : Nat} : ∀ {l : List Nat}, DigB B l → leV B l < B ^ l.length
  | [], _ => by simp [leV]
  | x :: l, h => by
    have h1 := leV_lt h.tail
    have h2 := h x (List.mem_cons_self ..)
    simp only [leV, List.length_cons, Nat.pow_succ]
    have h3 : B * (leV B l + 1) ≤ B * B ^ l.length := Nat.mul_le_mul_left _ h1
    rw [Nat.mul_comm (B ^ l.length) B]
    rw [Nat.mul_add, Nat.mul_one] at h3
    omega
/-- Nothing stands in front that could be left out. -/
def Norm (l : List Nat) : Prop := l.getLast? ≠ some 0
theorem Norm.nil : Norm [] := by simp [Norm]
theorem Norm.snoc {l : List Nat} {x : Nat} (h : x ≠ 0) : Norm (l ++ [x]) := by simp [Norm, h]
theorem norm_cases (l : List Nat) : l = [] ∨ ∃ r x, l = r ++ [x] := by
  rcases List.eq_nil_or_concat l with h | ⟨r, x, h⟩
  · exact .inl h
  · exact .inr ⟨r, x, by simpa using h⟩
theorem Norm.last {l : List Nat} {x : Nat} (h : Norm (l ++ [x])) : x ≠ 0 := by simpa [Norm] using h
theorem norm_ge {B : Nat} (_hB : 2 ≤ B) {l : List Nat} {x : Nat} (h : Norm (l ++ [x])) : B ^ l.length ≤ leV B (l ++ [x]) := by
  rw [leV_snoc]
  have := h.last
  have h1 : B ^ l.length * 1 ≤ B ^ l.length * x := Nat.mul_le_mul_left _ (by omega)
  omega
theorem leV_pos {B : Nat} (hB : 2 ≤ B) {l : List Nat} (hn : Norm l) (h : l ≠ []) : 0 < leV B l := by
  rcases norm_cases l with rfl | ⟨r, x, rfl⟩
  · exact absurd rfl h
  · have := norm_ge hB hn
    have h2 : 0 < B ^ r.length := Nat.pow_pos (by omega)
    omega
theorem leV_eq_zero {B : Nat} (hB : 2 ≤ B) {l : List Nat} (hn : Norm l) : leV B l = 0 ↔ l = [] := by
  constructor
  · intro h
    rcases norm_cases l with rfl | ⟨r, x, rfl⟩
    · rfl
    · have := leV_pos hB hn (by simp)
      omega
  · rintro rfl; rfl
/-- A longer list is a greater number. -/
theorem leV_len_lt {B : Nat} (hB : 2 ≤ B) {a b : List Nat} (ha : DigB B a) (hb : Norm b) (h : a.length < b.length) : leV B a < leV B b := by
  rcases norm_cases b with rfl | ⟨r, x, rfl⟩
  · simp at h
  · have h1 := leV_lt ha
    have h2 := norm_ge hB hb
    have h3 : B ^ a.length ≤ B ^ r.length := Nat.pow_le_pow_right (by omega) (by simp at h; omega)
    omega
theorem leV_inj {B : Nat} (hB : 2 ≤ B) : ∀ {a b : List Nat}, DigB B a → DigB B b → a.length = b.length → leV B a = leV B b → a = b
  | [], [], _, _, _, _ => rfl
  | [], _ :: _, _, _, h, _ => by simp at h
  | _ :: _, [], _, _, h, _ => by simp at h
  | x :: a, y :: b, ha, hb, hl, hv => by
    have h1 := ha x (List.mem_cons_self ..)
    have h2 := hb y (List.mem_cons_self ..)
    simp only [leV] at hv
    have h3 : (x + B * leV B a) % B = (y + B * leV B b) % B := by rw [hv]
    rw [Nat.add_mul_mod_self_left, Nat.add_mul_mod_self_left, Nat.mod_eq_of_lt h1, Nat.mod_eq_of_lt h2] at h3
    subst h3
    have h4 : leV B a = leV B b := Nat.eq_of_mul_eq_mul_left (show 0 < B by omega) (by omega)
    rw [leV_inj hB ha.tail hb.tail (by simpa using hl) h4]
theorem leV_unique {B : Nat} (hB : 2 ≤ B) {a b : List Nat} (ha : DigB B a) (hb : DigB B b) (na : Norm a) (nb : Norm b) (h : leV B a = leV B b) : a = b := by
  rcases Nat.lt_trichotomy a.length b.length with hl | hl | hl
  · have := leV_len_lt hB ha nb hl; omega
  · exact leV_inj hB ha hb hl h
  · have := leV_len_lt hB hb na hl; omega
/-- The highest digits in which two lists of one length differ decide. -/
theorem leV_top {B : Nat} {a b t : List Nat} {x y : Nat} (ha : DigB B a) (hl : a.length = b.length) (h : x < y) : leV B (a ++ x :: t) < leV B (b ++ y :: t) := by
  rw [leV_append, leV_append, leV, leV, ← hl]
  have h1 := leV_lt ha
  have h2 : B ^ a.length * (x + B * leV B t) + B ^ a.length ≤ B ^ a.length * (y + B * leV B t) := by
    rw [← Nat.mul_succ]
    exact Nat.mul_le_mul_left _ (by omega)
  omega
/-- A list without zeros in front. -/
def trimL (l : List Nat) : List Nat := (l.reverse.dropWhile (· == 0)).reverse
theorem trimL_nil : trimL [] = [] := rfl
theorem trimL_zero (l : List Nat) : trimL (l ++ [0]) = trimL l := by simp [trimL]
theorem trimL_keep {l : List Nat} {x : Nat} (h : x ≠ 0) : trimL (l ++ [x]) = l ++ [x] := by simp [trimL, h]
theorem trimL_norm (l : List Nat) : Norm (trimL l) := by
  suffices h : ∀ n (l : List Nat), l.length ≤ n → Norm (trimL l) from h _ l (Nat.le_refl _)
  intro n
  induction n with
  | zero => intro l hl; have : l = [] := List.length_eq_zero_iff.1 (by omega); subst this; exact Norm.nil
  | succ n ih =>
    intro l hl
    rcases norm_cases l with rfl | ⟨r, x, rfl⟩
    · exact Norm.nil
    · by_cases h : x = 0
      · subst h; rw [trimL_zero]; exact ih r (by simp at hl; omega)
      · rw [trimL_keep h]; exact Norm.snoc h
theorem trimL_val (B : Nat) (l : List Nat) : leV B (trimL l) = leV B l := by
  suffices h : ∀ n (l : List Nat), l.length ≤ n → leV B (trimL l) = leV B l from h _ l (Nat.le_refl _)
  intro n
  induction n with
  | zero => intro l hl; have : l = [] := List.length_eq_zero_iff.1 (by omega); subst this; rfl
  | succ n ih =>
    intro l hl
    rcases norm_cases l with rfl | ⟨r, x, rfl⟩
    · rfl
    · by_cases h : x = 0
      · subst h; rw [trimL_zero, ih r (by simp at hl; omega), leV_snoc]; simp
      · rw [trimL_keep h]
theorem trimL_dig {B : Nat} {l : List Nat} (h : DigB B l) : DigB B (trimL l) := fun x hx => by
  refine h x ?_
  simp only [trimL, List.mem_reverse] at hx
  have := (List.dropWhile_sublist (· == 0)).subset hx
  simpa using this
theorem trimL_id {l : List Nat} (h : Norm l) : trimL l = l := by
  rcases norm_cases l with rfl | ⟨r, x, rfl⟩
  · rfl
  · exact trimL_keep h.last
/-- The digits of a number. -/
def digsL (B n : Nat) : List Nat := if _h : n = 0 ∨ B < 2 then [] else n % B :: digsL B (n / B)
  termination_by n
  decreasing_by exact Nat.div_lt_self (by omega) (by omega)
theorem digsL_zero (B : Nat) : digsL B 0 = [] := by rw [digsL, dif_pos (.inl rfl)]
theorem digsL_pos {B n : Nat} (hB : 2 ≤ B) (h : 0 < n) : digsL B n = n % B :: digsL B (n / B) := by rw [digsL, dif_neg (by omega)]
theorem digsL_spec {B : Nat} (hB : 2 ≤ B) (k : Nat) : ∀ n, n ≤ k → leV B (digsL B n) = n ∧ DigB B (digsL B n) ∧ Norm (digsL B n) := by
  induction k with
  | zero => intro n h; obtain rfl : n = 0 := by omega
            rw [digsL_zero]; exact ⟨rfl, DigB.nil _, Norm.nil⟩
  | succ k ih =>
    intro n h
    rcases Nat.eq_zero_or_pos n with rfl | h0
    · rw [digsL_zero]; exact ⟨rfl, DigB.nil _, Norm.nil⟩
    · have h1 : n / B < n := Nat.div_lt_self h0 (by omega)
      obtain ⟨i1, i2, i3⟩ := ih (n / B) (by omega)
      rw [digsL_pos hB h0]
      refine ⟨by rw [leV, i1]; exact Nat.mod_add_div n B, DigB.cons (Nat.mod_lt _ (by omega)) i2, ?_⟩
      rcases norm_cases (digsL B (n / B)) with h2 | ⟨r, x, h2⟩
      · rw [h2]
        have h3 : n / B = 0 := by rw [← i1, h2]; rfl
        have h4 : n % B = n := Nat.mod_eq_of_lt ((Nat.div_eq_zero_iff_lt (by omega)).1 h3)
        rw [h4]
        simp [Norm]; omega
      · rw [h2] at i3 ⊢
        rw [← List.cons_append]
        exact Norm.snoc i3.last
theorem leV_digsL {B : Nat} (hB : 2 ≤ B) (n : Nat) : leV B (digsL B n) = n := (digsL_spec hB n n (Nat.le_refl _)).1
theorem digsL_dig {B : Nat} (hB : 2 ≤ B) (n : Nat) : DigB B (digsL B n) := (digsL_spec hB n n (Nat.le_refl _)).2.1
theorem digsL_norm {B : Nat} (hB : 2 ≤ B) (n : Nat) : Norm (digsL B n) := (digsL_spec hB n n (Nat.le_refl _)).2.2
theorem digsL_leV {B : Nat} (hB : 2 ≤ B) {l : List Nat} (h : DigB B l) (hn : Norm l) : digsL B (leV B l) = l :=
  leV_unique hB (digsL_dig hB _) h (digsL_norm hB _) hn (leV_digsL hB _)
theorem digsL_len {B : Nat} (hB : 2 ≤ B) (n k : Nat) : (digsL B n).length ≤ k ↔ n < B ^ k := by
  constructor
  · intro h
    have h1 := leV_lt (digsL_dig hB n)
    rw [leV_digsL hB] at h1
    have h2 : B ^ (digsL B n).length ≤ B ^ k := Nat.pow_le_pow_right (by omega) h
    omega
  · intro h
    rcases Nat.lt_or_ge k (digsL B n).length with h1 | h1
    · rcases norm_cases (digsL B n) with h2 | ⟨r, x, h2⟩
      · rw [h2] at h1; simp at h1
      · have h3 := norm_ge hB (h2 ▸ digsL_norm hB n)
        rw [← h2, leV_digsL hB] at h3
        have h4 : B ^ k ≤ B ^ r.length := Nat.pow_le_pow_right (by omega) (by rw [h2] at h1; simp at h1; omega)
        omega
    · exact h1

/-- The bytes of a number in decimal notation. -/
def chr10 (d : Nat) : UInt8 := UInt8.ofNat (48 + d)
theorem chr10_toNat {d : Nat} (h : d < 10) : (chr10 d).toNat = 48 + d := by
  simp only [chr10, UInt8.toNat_ofNat']
  omega
def natT (n : Nat) : List UInt8 := if n = 0 then [48] else (digsL 10 n).reverse.map chr10
/-- The text of an integer. -/
def intT (z : Int) : List UInt8 := if z < 0 then 45 :: natT z.natAbs else natT z.natAbs
def intB (z : Int) : ByteArray := ⟨(intT z).toArray⟩
/-- What a text of digits stands for. -/
def decT (l : List UInt8) : List Nat := l.reverse.map fun c => c.toNat - 48
def natV (l : List UInt8) : Nat := leV 10 (decT l)
def intV (l : List UInt8) : Int := if l.head? = some 45 then - (natV l.tail : Int) else natV l
theorem decT_map {l : List Nat} (h : DigB 10 l) : decT (l.reverse.map chr10) = l := by
  rw [decT, ← List.map_reverse, List.reverse_reverse, List.map_map]
  conv => rhs; rw [← List.map_id l]
  apply List.map_congr_left
  intro x hx
  have := h x hx
  simp [chr10_toNat this]
theorem natT_val (n : Nat) : natV (natT n) = n := by
  unfold natT
  split
  · rename_i h; subst h; rfl
  · rw [natV, decT_map (digsL_dig (by decide) n), leV_digsL (by decide)]
/-- A digit. -/
def IsDig (c : UInt8) : Prop := 48 ≤ c.toNat ∧ c.toNat ≤ 57
theorem isDig_chr {d : Nat} (h : d < 10) : IsDig (chr10 d) := by rw [IsDig, chr10_toNat h]; omega
theorem natT_dig (n : Nat) : ∀ c ∈ natT n, IsDig c := by
  intro c hc
  unfold natT at hc
  split at hc
  · simp at hc; subst hc; exact ⟨by decide, by decide⟩
  · obtain ⟨d, hd, rfl⟩ := List.mem_map.1 hc
    exact isDig_chr (digsL_dig (by decide) n d (by simpa using hd))
theorem natT_ne (n : Nat) : natT n ≠ [] := by
  unfold natT
  split
  · simp
  · rename_i h
    intro h2
    have h3 : digsL 10 n = [] := by simpa using h2
    have := leV_digsL (B := 10) (by decide) n
    rw [h3] at this
    exact h this.symm
theorem natT_len (n k : Nat) (hk : 1 ≤ k) : (natT n).length ≤ k ↔ n < 10 ^ k := by
  unfold natT
  split
  · rename_i h; subst h
    have : 0 < 10 ^ k := Nat.pow_pos (by decide)
    simp; omega
  · rw [List.length_map, List.length_reverse]; exact digsL_len (by decide) n k
/-- The first digit of a number that is not 0 is not 0. -/
theorem natT_head {n : Nat} (h : n ≠ 0) : (natT n).head? ≠ some 48 := by
  unfold natT
  rw [if_neg h]
  have hn := digsL_norm (B := 10) (by decide) n
  have hd := digsL_dig (B := 10) (by decide) n
  rcases norm_cases (digsL 10 n) with h2 | ⟨r, x, h2⟩
  · rw [h2]; simp
  · rw [h2] at hn hd ⊢
    have h3 := hn.last
    have h4 := hd x (by simp)
    simp only [List.reverse_append, List.reverse_cons, List.reverse_nil, List.nil_append, List.cons_append, List.map_cons, List.head?_cons]
    intro h5
    have h6 : (chr10 x).toNat = (48 : UInt8).toNat := by rw [Option.some.inj h5]
    rw [chr10_toNat h4] at h6
    have : (48 : UInt8).toNat = 48 := rfl
    omega
/-- A text of digits with no zero in front is that of its number. -/
theorem natT_natV {l : List UInt8} (hd : ∀ c ∈ l, IsDig c) (h0 : l ≠ []) (hz : l = [48] ∨ l.head? ≠ some 48) : natT (natV l) = l := by
  have hdb : DigB 10 (decT l) := by
    intro x hx
    obtain ⟨c, hc, rfl⟩ := List.mem_map.1 hx
    have := hd c (by simpa using hc)
    unfold IsDig at this; omega
  rcases hz with rfl | hz
  · rfl
  · have hn : Norm (decT l) := by
      cases l with
      | nil => exact absurd rfl h0
      | cons c t =>
        have hc := hd c (List.mem_cons_self ..)
        have h1 : decT (c :: t) = decT t ++ [c.toNat - 48] := by simp [decT]
        rw [h1]
        refine Norm.snoc ?_
        intro h2
        apply hz
        have h3 : c.toNat = 48 := by unfold IsDig at hc; omega
        rw [List.head?_cons, show c = 48 from UInt8.toNat_inj.1 h3]
    have hne : natV l ≠ 0 := by
      intro h
      have h1 := (leV_eq_zero (by decide) hn).1 h
      have : l = [] := by simpa [decT] using h1
      exact h0 this
    unfold natT
    rw [if_neg hne, natV, digsL_leV (by decide) hdb hn, decT, ← List.map_reverse, List.reverse_reverse, List.map_map]
    conv => rhs; rw [← List.map_id l]
    apply List.map_congr_left
    intro c hc
    have h1 := hd c hc
    unfold IsDig at h1
    apply UInt8.toNat_inj.1
    show (chr10 (c.toNat - 48)).toNat = c.toNat
    rw [chr10_toNat (by omega)]; omega
theorem natT_inj {m n : Nat} (h : natT m = natT n) : m = n := by rw [← natT_val m, h, natT_val]
theorem natT_head_dig (n : Nat) : (natT n).head? ≠ some 45 := by
  have h := natT_ne n
  have hd := natT_dig n
  cases e : natT n with
  | nil => exact absurd e h
  | cons c t =>
    have := hd c (by rw [e]; exact List.mem_cons_self ..)
    intro h2
    rw [List.head?_cons] at h2
    have h3 := Option.some.inj h2
    subst h3
    unfold IsDig at this
    have : (45 : UInt8).toNat = 45 := rfl
    omega
theorem intT_val (z : Int) : intV (intT z) = z := by
  unfold intT
  split
  · rw [intV, if_pos (by simp), List.tail_cons, natT_val]; omega
  · rw [intV, if_neg (natT_head_dig _), natT_val]; omega
theorem intT_inj {a b : Int} (h : intT a = intT b) : a = b := by rw [← intT_val a, h, intT_val]
theorem intB_inj {a b : Int} (h : intB a = intB b) : a = b := by
  have h1 : (intB a).data.toList = (intB b).data.toList := by rw [h]
  exact intT_inj (by simpa [intB] using h1)
/-- A text that an integer may have, whatever its length. -/
def OkT (l : List UInt8) : Prop := (∀ c ∈ l, IsDig c) ∧ l ≠ [] ∧ (l = [48] ∨ l.head? ≠ some 48)
theorem okT_natT (n : Nat) : OkT (natT n) := ⟨natT_dig n, natT_ne n, by
  by_cases h : n = 0
  · subst h; exact .inl rfl
  · exact .inr (natT_head h)⟩
theorem okT_natV {l : List UInt8} (h : OkT l) : natT (natV l) = l := natT_natV h.1 h.2.1 h.2.2
end Putlog
/- IntSpec: Plain mathematics of layer 3: which texts are integers; quotients, divisors, roots. Nothing of the program. -/
namespace Putlog

def maxZ : Nat := 10 ^ 200
/-- A valid integer: at most 200 digits. -/
def Fits (z : Int) : Prop := z.natAbs < 10 ^ 200
instance (z : Int) : Decidable (Fits z) := inferInstanceAs (Decidable (_ < _))
def isDigB (c : UInt8) : Bool := 48 ≤ c.toNat && c.toNat ≤ 57
/-- Whether a text is a valid integer. -/
def validT (l : List UInt8) : Bool :=
  if l.head? = some 45 then l.tail.all isDigB && !l.tail.isEmpty && decide (l.tail.length ≤ 200) && !(l.tail.head? == some 48)
  else l.all isDigB && !l.isEmpty && decide (l.length ≤ 200) && (l == [48] || !(l.head? == some 48))
theorem isDigB_iff (c : UInt8) : isDigB c = true ↔ IsDig c := by simp [isDigB, IsDig]
theorem all_isDigB (l : List UInt8) : l.all isDigB = true ↔ ∀ c ∈ l, IsDig c := by simp [List.all_eq_true, isDigB_iff]
theorem validT_int (z : Int) : validT (intT z) = true ↔ Fits z := by
  have hl := natT_len z.natAbs 200 (by decide)
  have hd := (all_isDigB _).2 (natT_dig z.natAbs)
  have hn : (natT z.natAbs).isEmpty = false := by
    have := natT_ne z.natAbs
    cases h : natT z.natAbs with
    | nil => exact absurd h this
    | cons c t => rfl
  unfold intT
  split
  · rename_i h
    have h0 := natT_head (n := z.natAbs) (by omega)
    unfold validT
    rw [if_pos (by simp), List.tail_cons, hd, hn]
    have h1 : ((natT z.natAbs).head? == some 48) = false := by simpa using h0
    rw [h1]
    simp [Fits, hl]
  · unfold validT
    rw [if_neg (natT_head_dig _), hd, hn]
    have h1 : (natT z.natAbs == [48] || !((natT z.natAbs).head? == some 48)) = true := by
      rcases (okT_natT z.natAbs).2.2 with h | h
      · simp [h]
      · have : ((natT z.natAbs).head? == some 48) = false := by simpa using h
        simp [this]
    rw [h1]
    simp [Fits, hl]
theorem validT_some {l : List UInt8} (h : validT l = true) : ∃ z : Int, l = intT z ∧ Fits z := by
  unfold validT at h
  split at h
  · rename_i h45
    simp only [Bool.and_eq_true, decide_eq_true_eq, Bool.not_eq_true'] at h
    obtain ⟨⟨⟨h1, h2⟩, h3⟩, h4⟩ := h
    cases l with
    | nil => cases h45
    | cons c t =>
      have hc : c = 45 := by simpa using h45
      subst hc
      rw [List.tail_cons] at h1 h2 h3 h4
      have ht : t ≠ [] := by intro e; subst e; cases h2
      have hz : t.head? ≠ some 48 := by simpa using h4
      have hok := natT_natV ((all_isDigB t).1 h1) ht (.inr hz)
      have hne : natV t ≠ 0 := by
        intro e
        rw [e] at hok
        apply hz; rw [← hok]; rfl
      have hzz : (-(natV t : Int)).natAbs = natV t := by omega
      refine ⟨-(natV t : Int), ?_, ?_⟩
      · unfold intT
        rw [if_pos (by omega), hzz, hok]
      · show (-(natV t : Int)).natAbs < 10 ^ 200
        rw [hzz]
        exact (natT_len _ 200 (by decide)).1 (by rw [hok]; exact h3)
  · simp only [Bool.and_eq_true, decide_eq_true_eq, Bool.not_eq_true', Bool.or_eq_true] at h
    obtain ⟨⟨⟨h1, h2⟩, h3⟩, h4⟩ := h
    have ht : l ≠ [] := by intro e; subst e; cases h2
    have hz : l = [48] ∨ l.head? ≠ some 48 := by
      rcases h4 with h4 | h4
      · exact .inl (by simpa using h4)
      · exact .inr (by simpa using h4)
    have hok := natT_natV ((all_isDigB l).1 h1) ht hz
    refine ⟨(natV l : Int), ?_, ?_⟩
    · unfold intT
      rw [if_neg (by omega), Int.natAbs_natCast, hok]
    · show ((natV l : Int)).natAbs < 10 ^ 200
      rw [Int.natAbs_natCast]
      exact (natT_len _ 200 (by decide)).1 (by rw [hok]; exact h3)
theorem validT_iff (l : List UInt8) : validT l = true ↔ ∃ z : Int, l = intT z ∧ Fits z :=
  ⟨validT_some, fun ⟨z, h, hf⟩ => by rw [h]; exact (validT_int z).2 hf⟩

/-- The greatest number whose square is at most n. -/
def rootN (n : Nat) : Nat → Nat
  | 0 => 0
  | k + 1 => if (k + 1) * (k + 1) ≤ n then k + 1 else rootN n k
def sqrtN (n : Nat) : Nat := rootN n n
theorem rootN_le (n : Nat) : ∀ k, rootN n k * rootN n k ≤ n
  | 0 => by simp [rootN]
  | k + 1 => by
    unfold rootN
    split
    · assumption
    · exact rootN_le n k
theorem rootN_max (n : Nat) : ∀ k j, j ≤ k → j * j ≤ n → j ≤ rootN n k
  | 0, j, h, _ => by simp [rootN]; omega
  | k + 1, j, h, hj => by
    unfold rootN
    split
    · exact h
    · rename_i h1
      rcases Nat.lt_or_ge j (k + 1) with h2 | h2
      · exact rootN_max n k j (by omega) hj
      · have h3 : j = k + 1 := by omega
        subst h3
        exact absurd hj h1
theorem sqrtN_le (n : Nat) : sqrtN n * sqrtN n ≤ n := rootN_le n n
theorem sqrtN_lt (n : Nat) : n < (sqrtN n + 1) * (sqrtN n + 1) := by
  rcases Nat.lt_or_ge n ((sqrtN n + 1) * (sqrtN n + 1)) with h | h
  · exact h
  · have h1 : sqrtN n + 1 ≤ n := Nat.le_trans (Nat.le_mul_of_pos_left _ (by omega)) h
    have := rootN_max n n (sqrtN n + 1) h1 h
    unfold sqrtN at this; omega
theorem sqrtN_unique {n r : Nat} (h1 : r * r ≤ n) (h2 : n < (r + 1) * (r + 1)) : r = sqrtN n := by
  have h3 := sqrtN_le n
  have h4 := sqrtN_lt n
  rcases Nat.lt_trichotomy r (sqrtN n) with h | h | h
  · have : (r + 1) * (r + 1) ≤ sqrtN n * sqrtN n := Nat.mul_le_mul h h
    omega
  · exact h
  · have : (sqrtN n + 1) * (sqrtN n + 1) ≤ r * r := Nat.mul_le_mul h h
    omega
theorem sqrtN_square (r : Nat) : sqrtN (r * r) = r := (sqrtN_unique (Nat.le_refl _) (Nat.mul_lt_mul_of_lt_of_le (by omega) (by omega) (by omega))).symm
/-- Euclid's quotient and remainder. -/
theorem ediv_spec (a b : Int) (hb : b ≠ 0) : a = a / b * b + a % b ∧ 0 ≤ a % b ∧ a % b < b.natAbs := by
  refine ⟨?_, Int.emod_nonneg a hb, ?_⟩
  · have := Int.mul_ediv_add_emod a b; rw [Int.mul_comm] at this; omega
  · rcases Int.lt_or_gt_of_ne hb with h | h
    · have := Int.emod_lt_of_pos a (show 0 < -b by omega); rw [Int.emod_neg] at this; omega
    · have := Int.emod_lt_of_pos a h; omega
theorem ediv_unique {a b q r : Int} (hb : b ≠ 0) (h : a = q * b + r) (h0 : 0 ≤ r) (h1 : r < b.natAbs) : q = a / b ∧ r = a % b := by
  have h2 : r = a % b := by
    rw [h, Int.add_comm, Int.add_mul_emod_self_right]
    rcases Int.lt_or_gt_of_ne hb with h2 | h2
    · rw [← Int.emod_neg]; exact (Int.emod_eq_of_lt h0 (by omega)).symm
    · exact (Int.emod_eq_of_lt h0 (by omega)).symm
  refine ⟨?_, h2⟩
  obtain ⟨e1, _, _⟩ := ediv_spec a b hb
  have : q * b = a / b * b := by omega
  exact Int.eq_of_mul_eq_mul_right hb this
end Putlog
/- IntKit: What the walks of layer 3 share: lists of numbers and bytes that lie in blocks, or that a call owns. -/
namespace Go.Proofs.YtelckldddflmmaaGreatDoor
open Go.RowKit Putlog

theorem lt_of_cell {W : World} {B i : Nat} {v : Value} (h : W.cell? ⟨B, i, none⟩ = some v) : B < W.heap.size := by
  rcases Nat.lt_or_ge B W.heap.size with h' | h'
  · exact h'
  · simp [World.cell?, Array.getElem?_eq_none h'] at h
theorem keptBelow {w w' : World} {b i : Nat} {v : Value} (h : Below w.heap.size w w') (hc : w.cell? ⟨b, i, none⟩ = some v) : w'.cell? ⟨b, i, none⟩ = some v := (h.cell (p := ⟨b, i, none⟩) (lt_of_cell hc)).trans hc
theorem cellA {W : World} {b i : Nat} {v : Value} (o : Obj) (h : W.cell? ⟨b, i, none⟩ = some v) : (W.alloc o).cell? ⟨b, i, none⟩ = some v := keptBelow ((Below.refl _ _).alloc (Nat.le_refl _) _) h
theorem belowVia {a b c : World} (k : Below b.heap.size b c) (h : Below a.heap.size a b) : Below a.heap.size a c := h.trans (k.mono h.size)
theorem below_drewN {B : Nat} {a w : World} (h : Below B a w) (n : Nat) : Below B a (w.drewN n) := ⟨h.os, h.tape, h.output, h.size, h.block⟩
theorem belowGrown {w w1 w2 : World} {v : Value} {e size n : Nat} {xs : List Value} (h : Below w.heap.size w w1) (hO : w1.ownsRow w.heap.size e size v n xs) (hg : w1.grownBy w2 v.ownBlock) : Below w.heap.size w w2 :=
  h.grown hg h.size fun k e => (hO.lt k e).1
/-- append to a slice that is nil or the call's own, as one step of a region. -/
theorem step_append_own {P : Program} {ops : Array Oper} {o : Oper} {a : Act} {w : World} {K : Act → World → Prop} {Q : Exit → Act → World → Prop} {E : Prop}
    (hg : o.guard = none) (s x : Operand) (t : TypeId) (hop : o.op = Op.call { callee := Callee.builtin Builtin.append, args := #[s, x], argTypes := #[t, t] })
    (base : Nat) (e : TypeId) (i : TypeInfo) (z : Value) (size bytes : Nat) (h1 : P.underlying t = some (.slice e)) (h2 : P.info? e = some i) (h3 : i.zero = some z) (h4 : i.size = size) (h5 : i.bytes = bytes) (h6 : z.cells.size = size) (h7 : 0 < size)
    (v : Value) (k : Nat) (xs : List Value) (hs : a.eval s = v) (hown : w.ownsRow base e size v k xs) (ad : Addr) (m c : Nat) (news : List Value) (hx : a.eval x = .slice (some ad) m c) (hn : news.length = m * size)
    (hc : ∀ j u, news[j]? = some u → w.cell? (ad.add j) = some u) (h1c : ∀ u ∈ news, u.oneCell' = true) (b1 : k + m ≤ maxLen) (b2 : (k + m) * bytes ≤ 140737488355328) (b3 : base ≤ w.heap.size)
    (hK : ∀ v' w', w'.ownsRow base e size v' (k + m) (xs ++ news) → w.grownBy w' v.ownBlock → K (a.put o.dst v') w') :
    if Region.wanted o (yielded ops a.tmps) = true then Oper.wp P o a w K Q else E := by
  have hw : Region.wanted o (yielded ops a.tmps) = true := by simp [Region.wanted, hg]
  rw [if_pos hw]
  obtain ⟨v', w', hrun, r1, r2, _⟩ := run_append_own (P := P) w base t o.type e i z size bytes h1 h2 h3 h4 h5 h6 h7 v k xs hown ad m c news hn hc h1c b1 b2 b3
  unfold Oper.wp
  simp [execOp, hop, resolve, invoke, builtin, hs, hx, hrun, Result.andThen]
  exact hK v' w' r1 r2
theorem ownsRow_below {w w' : World} {base e size n : Nat} {v : Value} {xs : List Value} (h : w.ownsRow base e size v n xs) (hB : Below w.heap.size w w') : w'.ownsRow base e size v n xs := by
  obtain ⟨h1, h2⟩ := h
  refine ⟨h1, ?_⟩
  rcases h2 with h2 | ⟨g, cap, cur, hv, hg, hh, r⟩
  · exact .inl h2
  · exact .inr ⟨g, cap, cur, hv, hg, (hB.block g (Array.getElem?_eq_some_iff.1 hh).1).trans hh, r⟩
theorem ownsRow_base {w : World} {B B' n : Nat} {t : TypeId} {v : Value} {xs : List Value} (h : w.ownsRow B' t 1 v n xs) (hb : B ≤ B') : w.ownsRow B t 1 v n xs := by
  obtain ⟨h1, h2⟩ := h
  refine ⟨h1, ?_⟩
  rcases h2 with h2 | ⟨g, cap, cur, hv, hg, r⟩
  · exact .inl h2
  · exact .inr ⟨g, cap, cur, hv, Nat.le_trans hb hg, r⟩
theorem ownsRow_form {w : World} {B n : Nat} {t : TypeId} {v : Value} {xs : List Value} (h : w.ownsRow B t 1 v n xs) : ∃ a c, v = .slice a n c ∧ n ≤ c ∧ (c : Int) ≤ 9223372036854775807 ∧ ((a = none ∧ c = 0) ∨ ∃ g, B ≤ g ∧ a = some ⟨g, 0, none⟩) ∧ ∀ j u, xs[j]? = some u → ∀ g, a = some ⟨g, 0, none⟩ → w.cell? ⟨g, j, none⟩ = some u := by
  obtain ⟨h0, hv | ⟨g, cap, cur, hv, hg, hh, h1, h2, h3, h4⟩⟩ := h
  · obtain ⟨h1, rfl⟩ := hv
    rw [h1]
    exact ⟨none, 0, rfl, Nat.le_refl _, by omega, .inl ⟨rfl, rfl⟩, fun j u hj => by simp at h0; subst h0; simp at hj⟩
  · refine ⟨some ⟨g, 0, none⟩, cap, hv, h1, by unfold maxLen at h2; omega, .inr ⟨g, hg, rfl⟩, fun j u hj g' e => ?_⟩
    obtain rfl : g = g' := by cases e; rfl
    rw [cell_of_row w g j cur _ (0, 0) hh]
    rw [Nat.mul_one] at h4 h0
    have hjn : j < n := by have := (List.getElem?_eq_some_iff.1 hj).1; omega
    have h5 : (cur.toList.take n)[j]? = xs[j]? := by rw [h4]
    rw [List.getElem?_take_of_lt hjn, Array.getElem?_toList] at h5
    rw [h5, hj]
theorem news_val (W : World) (v : Value) (t : TypeId) : ∀ j u, [v][j]? = some u → (W.alloc (.cells #[v] t)).cell? ((⟨W.heap.size, 0, none⟩ : Addr).add j) = some u
  | 0, u, h => by
    simp at h; subst h
    exact (cell_of_row (W.alloc (.cells #[v] t)) W.heap.size 0 #[v] t (0, 0) (heap_alloc_new W _)).trans rfl
  | j + 1, u, h => by simp at h
theorem one_int (k : IntKind) (r : Int) : ∀ u ∈ [Value.int k r], u.oneCell' = true := by intro u hu; simp at hu; subst hu; rfl
theorem app_b1 {n : Nat} (h : n ≤ 100000) : n + 1 ≤ maxLen := by unfold maxLen; omega
theorem app_b2 {n k : Nat} (h : n ≤ 100000) (hk : k ≤ 16) : (n + 1) * k ≤ 140737488355328 := by
  have : (n + 1) * k ≤ 100001 * 16 := Nat.mul_le_mul (by omega) hk
  omega
theorem app_b3 {w0 w1 : World} {t : TypeId} {cs : Array Value} (h1 : Below w0.heap.size w0 w1) : w0.heap.size ≤ (w1.alloc (.cells cs t)).heap.size := by
  have := h1.size; simp; omega

def slen : Value → Nat
  | .slice _ n _ => n
  | _ => 0
/-- Numbers, bytes, as values. -/
def i64l (l : List Nat) : List Value := l.map fun n : Nat => .int .i64 (n : Int)
def u8l (l : List UInt8) : List Value := l.map fun b => .int .u8 (b.toNat : Nat)
theorem i64l_snoc (l : List Nat) (b : Nat) : i64l (l ++ [b]) = i64l l ++ [.int .i64 (b : Nat)] := by simp [i64l]
theorem u8l_snoc (l : List UInt8) (b : UInt8) : u8l (l ++ [b]) = u8l l ++ [.int .u8 (b.toNat : Nat)] := by simp [u8l]
theorem i64l_get {l : List Nat} {j : Nat} (h : j < l.length) : (i64l l)[j]? = some (.int .i64 (l.getD j 0 : Nat)) := by simp [i64l, List.getD_eq_getElem?_getD, h]
theorem u8l_get {l : List UInt8} {j : Nat} (h : j < l.length) : (u8l l)[j]? = some (.int .u8 ((l.getD j 0).toNat : Nat)) := by simp [u8l, List.getD_eq_getElem?_getD, h]
/-- A slice of numbers: nil or a row at the head of a block. -/
def NumsAt (w : World) (v : Value) (l : List Nat) : Prop := ∃ a c, v = .slice a l.length c ∧ l.length ≤ c ∧ (c : Int) ≤ 9223372036854775807 ∧ ((a = none ∧ c = 0) ∨ ∃ g, a = some ⟨g, 0, none⟩ ∧ ∀ j, j < l.length → w.cell? ⟨g, j, none⟩ = some (.int .i64 (l.getD j 0 : Nat)))
theorem NumsAt.via {w w' : World} {v : Value} {l : List Nat} (hB : Below w.heap.size w w') (h : NumsAt w v l) : NumsAt w' v l := by
  obtain ⟨a, c, h1, h2, h3, h4⟩ := h
  refine ⟨a, c, h1, h2, h3, ?_⟩
  rcases h4 with h4 | ⟨g, h5, h6⟩
  · exact .inl h4
  · exact .inr ⟨g, h5, fun j hj => keptBelow hB (h6 j hj)⟩
theorem NumsAt.of_owns {w : World} {B : Nat} {t : TypeId} {v : Value} {l : List Nat} (h : w.ownsRow B t 1 v l.length (i64l l)) : NumsAt w v l := by
  obtain ⟨a, c, h1, h2, h3, h4, h5⟩ := ownsRow_form h
  refine ⟨a, c, h1, h2, h3, ?_⟩
  rcases h4 with h4 | ⟨g, _, h6⟩
  · exact .inl h4
  · exact .inr ⟨g, h6, fun j hj => h5 j _ (i64l_get hj) g h6⟩
theorem app_i64 {w wr w3 : World} {t : TypeId} {l : List Nat} {b : Nat} {v v' : Value} {o : Obj} (hO : wr.ownsRow w.heap.size t 1 v l.length (i64l l)) (hB : Below w.heap.size w wr)
    (hown : w3.ownsRow w.heap.size t 1 v' (l.length + 1) (i64l l ++ [.int .i64 (b : Nat)])) (hg : (wr.alloc o).grownBy w3 v.ownBlock) :
    w3.ownsRow w.heap.size t 1 v' (l ++ [b]).length (i64l (l ++ [b])) ∧ Below w.heap.size w w3 := by
  refine ⟨?_, belowGrown (hB.alloc hB.size o) (hO.alloc o) hg⟩
  rw [i64l_snoc, List.length_append]
  exact hown
theorem app_u8 {w wr w3 : World} {t : TypeId} {l : List UInt8} {b : UInt8} {v v' : Value} {o : Obj} (hO : wr.ownsRow w.heap.size t 1 v l.length (u8l l)) (hB : Below w.heap.size w wr)
    (hown : w3.ownsRow w.heap.size t 1 v' (l.length + 1) (u8l l ++ [.int .u8 (b.toNat : Nat)])) (hg : (wr.alloc o).grownBy w3 v.ownBlock) :
    w3.ownsRow w.heap.size t 1 v' (l ++ [b]).length (u8l (l ++ [b])) ∧ Below w.heap.size w w3 := by
  refine ⟨?_, belowGrown (hB.alloc hB.size o) (hO.alloc o) hg⟩
  rw [u8l_snoc, List.length_append]
  exact hown
theorem info_int : (Tryz.prog.info? 3).map (fun i => (i.zero, i.size, i.bytes)) = some (some (.int .i64 0), 1, 8) := by kernel_rfl
theorem info_byte : (Tryz.prog.info? 5).map (fun i => (i.zero, i.size, i.bytes)) = some (some (.int .u8 0), 1, 1) := by kernel_rfl
set_option maxRecDepth 100000 in
theorem convB (w : World) (g c : Nat) (bs : List UInt8) (hc : ∀ j, j < bs.length → w.cell? ⟨g, j, none⟩ = some (.int .u8 ((bs.getD j 0).toNat : Nat))) :
    (convert 48 9 (.slice (some ⟨g, 0, none⟩) bs.length c)).run Tryz.prog w = .ok (.string ⟨bs.toArray⟩) w := by
  have h := run_convert_bytes_arg (P := Tryz.prog) w 48 5 Tryz.underlying48 Tryz.underlying5 g 0 bs.length c (bs.map fun b => (b.toNat : Int)) (by simp) (fun i hi => by
    rw [Nat.zero_add, hc i hi]; simp [List.getD_eq_getElem?_getD, hi]) 9 Tryz.underlying9
  have hstr : strOfNums (bs.map fun b => (b.toNat : Int)) = ⟨bs.toArray⟩ := by
    unfold strOfNums
    rw [List.map_map]
    congr 2
    conv => rhs; rw [← List.map_id bs]
    apply List.map_congr_left
    intro x _
    simp
  rw [hstr] at h
  exact h
theorem owns_u8 {w : World} {B : Nat} {t : TypeId} {v : Value} {l : List UInt8} (h : w.ownsRow B t 1 v l.length (u8l l)) (h0 : 0 < l.length) : ∃ g c, v = .slice (some ⟨g, 0, none⟩) l.length c ∧ ∀ j, j < l.length → w.cell? ⟨g, j, none⟩ = some (.int .u8 ((l.getD j 0).toNat : Nat)) := by
  obtain ⟨a, c, h1, h2, h3, h4, h5⟩ := ownsRow_form h
  rcases h4 with ⟨_, h4⟩ | ⟨g, _, h6⟩
  · omega
  · exact ⟨g, c, by rw [h1, h6], fun j hj => h5 j _ (u8l_get hj) g h6⟩
end Go.Proofs.YtelckldddflmmaaGreatDoor
/- IntRef: The contracts of the reference's trim, text and Made. -/
namespace Go.Proofs.YtelckldddflmmaaGreatDoor
open Go.RowKit Putlog

/-- A list without its zeros in front, as a beginning. -/
theorem trimL_take (l : List Nat) : trimL l = l.take (trimL l).length := by
  suffices h : ∀ n (l : List Nat), l.length ≤ n → trimL l = l.take (trimL l).length from h _ l (Nat.le_refl _)
  intro n
  induction n with
  | zero => intro l hl; have : l = [] := List.length_eq_zero_iff.1 (by omega); subst this; rfl
  | succ n ih =>
    intro l hl
    rcases norm_cases l with rfl | ⟨r, x, rfl⟩
    · rfl
    · by_cases h : x = 0
      · subst h
        rw [trimL_zero]
        have h1 := ih r (by simp at hl; omega)
        have h2 : (trimL r).length ≤ r.length := by rw [h1]; simp; omega
        rw [List.take_append_of_le_length h2]
        exact h1
      · rw [trimL_keep h, List.take_length]
theorem trimL_le (l : List Nat) : (trimL l).length ≤ l.length := by rw [trimL_take l]; simp; omega
theorem take_getD (l : List Nat) {k j : Nat} (h : j < k) : (l.take k).getD j 0 = l.getD j 0 := by
  simp [List.getD_eq_getElem?_getD, h]
theorem trim_step {l : List Nat} {k : Nat} (hk : k < l.length) : (l.getD k 0 = 0 → trimL (l.take (k + 1)) = trimL (l.take k)) ∧ (l.getD k 0 ≠ 0 → trimL (l.take (k + 1)) = l.take (k + 1)) := by
  have e : l.take (k + 1) = l.take k ++ [l.getD k 0] := by
    rw [List.take_succ_eq_append_getElem hk]; simp [List.getD_eq_getElem?_getD, hk]
  rw [e]
  exact ⟨fun h => by rw [h, trimL_zero], fun h => trimL_keep h⟩

theorem NumsAt.take {w : World} {a : Option Addr} {c : Nat} {l : List Nat} (h : NumsAt w (.slice a l.length c) l) {k : Nat} (hk : k ≤ l.length) : NumsAt w (.slice a k c) (l.take k) := by
  obtain ⟨a', c', e, h2, h3, h4⟩ := h
  cases e
  have hl : (l.take k).length = k := by simp; omega
  refine ⟨a, c, by rw [hl], by omega, h3, ?_⟩
  rcases h4 with h4 | ⟨g, h5, h6⟩
  · exact .inl h4
  · exact .inr ⟨g, h5, fun j hj => by rw [take_getD l (by omega)]; exact h6 j (by omega)⟩
theorem NumsAt.addr {w : World} {a : Option Addr} {c : Nat} {l : List Nat} (h : NumsAt w (.slice a l.length c) l) : l.length ≤ c ∧ (c : Int) ≤ 9223372036854775807 ∧ (0 < l.length → ∃ g, a = some ⟨g, 0, none⟩ ∧ ∀ j, j < l.length → w.cell? ⟨g, j, none⟩ = some (.int .i64 (l.getD j 0 : Nat))) := by
  obtain ⟨a', c', e, h2, h3, h4⟩ := h
  cases e
  refine ⟨h2, h3, fun h0 => ?_⟩
  rcases h4 with ⟨_, h4⟩ | h4
  · omega
  · exact h4

set_option maxRecDepth 100000 in
set_option maxHeartbeats 2000000 in
theorem rtrim_any (l : List Nat) (hl : l.length ≤ 100000) (v : Value) (w : World) (hv : NumsAt w v l) :
    Calls Tryz.prog 95 #[v] w fun e w' => ∃ u, e = .returned u ∧ NumsAt w' u (trimL l) ∧ w = w' := by
  obtain ⟨a, c, rfl, hv2⟩ : ∃ a c, v = .slice a l.length c ∧ NumsAt w (.slice a l.length c) l := by
    obtain ⟨a, c, e, r⟩ := hv
    exact ⟨a, c, e, a, c, rfl, r⟩
  have HV := Lib.hid hv2
  obtain ⟨hc1, hc2, hc3⟩ := hv2.addr
  have HA := Lib.hid hc3
  clear hv hv2 hc3
  go_enter Tryz.func95, Tryz.ntmps95
  go_wp2_with fail
  go_loop [0] (fun v => ∃ k : Nat, k ≤ l.length ∧ v = .slice a k c ∧ trimL (l.take k) = trimL l) (fun v => slen v)
  case atStart => exact ⟨l.length, Nat.le_refl _, rfl, by rw [List.take_length]⟩
  case round =>
    obtain ⟨k, hk, rfl, ht⟩ := hrel
    rcases Nat.eq_zero_or_pos k with rfl | h0
    · have HT : Hid (trimL l = []) := by show trimL l = []; rw [← ht]; rfl
      clear ht
      go_wp2_with fail
      go_ret
      refine ⟨_, rfl, ?_, rfl⟩
      rw [HT.out]
      exact HV.out.take (k := 0) (by omega)
    · obtain ⟨q, rfl⟩ : ∃ q, k = q + 1 := ⟨k - 1, by omega⟩
      obtain ⟨g, rfl, hcell⟩ := HA.out (by omega)
      have hc := hcell q (by omega)
      obtain ⟨hs1, hs2⟩ := trim_step (l := l) (k := q) (by omega)
      have hqc : (q : Int) + 1 ≤ c := by omega
      have hqb : (q : Int) ≤ 100000 := by omega
      by_cases hx : l.getD q 0 = 0
      · have HN : Hid (trimL (l.take q) = trimL l) := by show _ = _; rw [← hs1 hx]; exact ht
        rw [hx] at hc
        clear ht hs1 hs2 hx hcell
        go_wp2_with fail
        go_round
        case rel => exact ⟨q, by omega, rfl, HN.out⟩
        case measure => simp [slen]
      · have HT : Hid (trimL l = l.take (q + 1)) := by show _ = _; rw [← ht]; exact hs2 hx
        have hxb : ((l.getD q 0 : Nat) : Int) ≠ 0 := by omega
        have hxe : (((l.getD q 0 : Nat) : Int) == 0) = false := by simpa using hxb
        generalize l.getD q 0 = x at *
        clear ht hs1 hs2 hcell
        go_wp2_with fail
        go_ret
        refine ⟨_, rfl, ?_, rfl⟩
        rw [HT.out]
        exact HV.out.take hk

/-- The bytes of a text, its sign first. -/
def signT (neg : Bool) : List UInt8 := if neg = true then [45] else []
def txt (neg : Bool) (l : List Nat) (k : Nat) : List UInt8 := signT neg ++ (l.reverse.take k).map chr10
theorem txt_succ (neg : Bool) (l : List Nat) {k : Nat} (h : k < l.length) : txt neg l k ++ [chr10 (l.getD (l.length - 1 - k) 0)] = txt neg l (k + 1) := by
  unfold txt
  rw [List.take_succ_eq_append_getElem (by simpa using h), List.map_append, List.append_assoc]
  congr 2
  simp [List.getD_eq_getElem?_getD, show l.length - 1 - k < l.length by omega]
theorem txt_zero (neg : Bool) (l : List Nat) : txt neg l 0 = signT neg := by simp [txt]
theorem txt_len (neg : Bool) (l : List Nat) {k : Nat} (h : k ≤ l.length) : (txt neg l k).length = (signT neg).length + k := by
  simp [txt]; omega
theorem signT_len (neg : Bool) : (signT neg).length ≤ 1 := by cases neg <;> simp [signT]
/-- The number of a sign and digits. -/
def sgn (neg : Bool) (n : Nat) : Int := if neg = true then -(n : Int) else n
theorem txt_all (neg : Bool) {l : List Nat} (hd : DigB 10 l) (hn : Norm l) (h0 : l ≠ []) : txt neg l l.length = intT (sgn neg (leV 10 l)) := by
  have hp := leV_pos (B := 10) (by decide) hn h0
  have hnat : natT (leV 10 l) = l.reverse.map chr10 := by
    unfold natT
    rw [if_neg (by omega), digsL_leV (by decide) hd hn]
  have ht : txt neg l l.length = signT neg ++ l.reverse.map chr10 := by
    unfold txt; rw [List.take_of_length_le (by simp)]
  rw [ht]
  unfold intT sgn signT
  cases neg with
  | true =>
    rw [if_pos rfl, if_pos rfl, if_pos (by omega)]
    rw [show (-(leV 10 l : Int)).natAbs = leV 10 l by omega, hnat]; rfl
  | false =>
    have h1 : ¬ ((leV 10 l : Int) < 0) := by omega
    simp only [Bool.false_eq_true, if_false, h1, Int.natAbs_natCast, hnat]
    rfl

set_option maxRecDepth 100000 in
set_option maxHeartbeats 2000000 in
theorem rtext_any (neg : Bool) (l : List Nat) (hl : l.length ≤ 50000) (hd : DigB 10 l) (hn : Norm l) (v : Value) (w : World) (hv : NumsAt w v l) :
    Calls Tryz.prog 76 #[.bool neg, v] w fun e w' => e = .returned (.tuple #[.string (intB (sgn neg (leV 10 l))), .bool (decide ((l.length : Int) ≤ 200))]) ∧ Below w.heap.size w w' := by
  obtain ⟨a, c, rfl, hv2⟩ : ∃ a c, v = .slice a l.length c ∧ NumsAt w (.slice a l.length c) l := by
    obtain ⟨a, c, e, r⟩ := hv
    exact ⟨a, c, e, a, c, rfl, r⟩
  obtain ⟨hc1, hc2, hc3⟩ := hv2.addr
  by_cases h0 : l = []
  · subst h0
    have hz : Hid (intB (sgn neg (leV 10 [])) = ⟨#[48]⟩) := by show _ = _; cases neg <;> rfl
    clear hv hv2 hc3 hd hn
    go_enter Tryz.func76, Tryz.ntmps76
    go_wp2_with fail
    go_ret2
    exact ⟨by rw [hz.out]; rfl, Below.refl _ _⟩
  · obtain ⟨i0, hi0, hz0, hz1, hz2⟩ := info_parts info_byte
    have HI0 := Lib.hid hi0
    have HZ0 := Lib.hid hz0
    have HZ1 := Lib.hid hz1
    have HZ2 := Lib.hid hz2
    clear hi0 hz0 hz1 hz2
    have hlp : 0 < l.length := List.length_pos_iff.2 h0
    obtain ⟨g, rfl, hcell⟩ := hc3 hlp
    have hta := txt_all neg hd hn h0
    have HR : Hid ((⟨(txt neg l l.length).toArray⟩ : ByteArray) = intB (sgn neg (leV 10 l))) := by show _ = _; rw [hta]; rfl
    have HC := Lib.hid hcell
    have HD := Lib.hid hd
    obtain ⟨R, hR⟩ : ∃ R, R = intB (sgn neg (leV 10 l)) := ⟨_, rfl⟩
    rw [← hR] at HR ⊢
    obtain ⟨n, hn2⟩ : ∃ n, n = l.length := ⟨_, rfl⟩
    rw [← hn2] at hlp hc1 ⊢
    have HN := Lib.hid hn2
    have hlb : (n : Int) ≤ 50000 := by omega
    have hn0 : ((n : Int) == 0) = false := by simp; omega
    clear hv hv2 hc3 hcell hta hd hn h0 hR hn2 hl
    have HS := Lib.hid (signT_len neg)
    have HT0 := Lib.hid (txt_zero neg l)
    cases neg with
    | true =>
      go_enter Tryz.func76, Tryz.ntmps76
      go_wp2_with (at_builtin; refine wpList_append_own _ rfl _ _ 48 rfl w.heap.size 5 i0 (.int .u8 0) 1 1 Tryz.underlying48 HI0.out HZ0.out HZ1.out HZ2.out rfl (by decide) (.slice none 0 0) 0 [] (by rfl) (World.ownsRow_nil _ _ _ _) ⟨w.heap.size, 0, none⟩ 1 1 [.int .u8 45] (by rfl) rfl (news_val _ _ _) (one_int _ _) (by decide) (by decide) (by simp) ?_; intro v' w3 hown3 hgrow3 _)
      have HST : Hid (w3.ownsRow w.heap.size 5 1 v' (txt true l 0).length (u8l (txt true l 0)) ∧ Below w.heap.size w w3) := by
        show _ ∧ _
        rw [HT0.out]
        exact ⟨hown3, belowGrown (e := 5) (size := 1) ((Below.refl w.heap.size w).alloc (Nat.le_refl _) _) (World.ownsRow_nil _ _ _ _) hgrow3⟩
      clear hown3 hgrow3
      go_loopw [6, 7] (fun v i wr => ∃ k : Nat, k ≤ n ∧ i = .int .i64 ((n : Int) - 1 - k) ∧ wr.ownsRow w.heap.size 5 1 v (txt true l k).length (u8l (txt true l k)) ∧ Below w.heap.size w wr) (fun _ i _ => (1 + intOf i).toNat)
      case atStart => exact ⟨0, by omega, by go_num, HST.out.1, HST.out.2⟩
      case round =>
        clear HST
        obtain ⟨k, hk, rfl, hown, hB⟩ := hrel
        have HO := Lib.hid hown
        have HB := Lib.hid hB
        clear hown hB
        by_cases hlt : k < n
        · have hcx := keptBelow HB.out (HC.out (n - 1 - k) (by have := HN.out; omega))
          have hd := HD.out (l.getD (n - 1 - k) 0) (by
            rw [List.getD_eq_getElem?_getD, List.getElem?_eq_getElem (by have := HN.out; omega), Option.getD_some]; exact List.getElem_mem _)
          have hst := txt_succ true l (k := k) (by have := HN.out; omega)
          rw [← HN.out] at hst
          have hlen := txt_len true l (k := k) (by have := HN.out; omega)
          have hy := chr10_toNat hd
          have HK : Hid ((txt true l k).length ≤ 100000) := by show _ ≤ _; rw [hlen]; have := HS.out; omega
          have i0' : 0 ≤ (n : Int) - 1 - k := by omega
          have i1' : (n : Int) - 1 - k < n := by omega
          have i2' : ((n : Int) - 1 - k).toNat = n - 1 - k := by omega
          generalize txt true l k = y at *
          generalize l.getD (n - 1 - k) 0 = x at *
          generalize chr10 x = b at *
          have hy2 : (48 : Int) + (x : Int) = (b.toNat : Nat) := by omega
          have hyb : (b.toNat : Int) ≤ 57 := by omega
          have HSU := Lib.hid hst
          clear hst hlen hy
          go_wp2_with (at_builtin; refine wpList_append_own _ rfl _ _ 48 rfl w.heap.size 5 i0 (.int .u8 0) 1 1 Tryz.underlying48 HI0.out HZ0.out HZ1.out HZ2.out rfl (by decide) u6 y.length (u8l y) (by rfl) (HO.out.alloc _) ⟨wr.heap.size, 0, none⟩ 1 1 [.int .u8 (b.toNat : Nat)] (by rfl) rfl (news_val _ _ _) (one_int _ _) (app_b1 HK.out) (app_b2 HK.out (by decide)) (app_b3 HB.out) ?_; intro v2 w9 hown9 hgrow9 _)
          have HF := Lib.hid (app_u8 (b := b) HO.out HB.out hown9 hgrow9)
          rw [HSU.out] at HF
          clear hown9 hgrow9
          go_wp2_with fail
          go_roundw
          case rel => exact ⟨k + 1, by omega, by go_num, HF.out.1, HF.out.2⟩
          case measure => simp [intOf]; omega
        · have hkn : k = n := by omega
          subst hkn
          have hlen := txt_len true l (k := k) (by have := HN.out; omega)
          have hlen0 : 0 < (txt true l k).length := by omega
          obtain ⟨g3, c3, rfl, hcs⟩ := owns_u8 HO.out hlen0
          have hcv := convB wr g3 c3 _ hcs
          have hRR := HR.out
          rw [← HN.out] at hRR
          rw [hRR] at hcv
          have hll : (txt true l k).length ≤ 60000 := by rw [hlen]; have := HS.out; omega
          generalize (txt true l k).length = L at *
          have hneg : ((k : Int) - 1 - k) < 0 := by omega
          clear hcs hlt hRR hlen hlen0 HO
          go_wp2_with fail
          go_ret2
          exact ⟨rfl, HB.out⟩
    | false =>
      go_enter Tryz.func76, Tryz.ntmps76
      go_wp2_with fail
      have HST : Hid (w.ownsRow w.heap.size 5 1 (.slice none 0 0) (txt false l 0).length (u8l (txt false l 0)) ∧ Below w.heap.size w w) := by
        show _ ∧ _
        rw [HT0.out]
        exact ⟨World.ownsRow_nil _ _ _ _, Below.refl _ _⟩
      go_loopw [6, 7] (fun v i wr => ∃ k : Nat, k ≤ n ∧ i = .int .i64 ((n : Int) - 1 - k) ∧ wr.ownsRow w.heap.size 5 1 v (txt false l k).length (u8l (txt false l k)) ∧ Below w.heap.size w wr) (fun _ i _ => (1 + intOf i).toNat)
      case atStart => exact ⟨0, by omega, by go_num, HST.out.1, HST.out.2⟩
      case round =>
        clear HST
        obtain ⟨k, hk, rfl, hown, hB⟩ := hrel
        have HO := Lib.hid hown
        have HB := Lib.hid hB
        clear hown hB
        by_cases hlt : k < n
        · have hcx := keptBelow HB.out (HC.out (n - 1 - k) (by have := HN.out; omega))
          have hd := HD.out (l.getD (n - 1 - k) 0) (by
            rw [List.getD_eq_getElem?_getD, List.getElem?_eq_getElem (by have := HN.out; omega), Option.getD_some]; exact List.getElem_mem _)
          have hst := txt_succ false l (k := k) (by have := HN.out; omega)
          rw [← HN.out] at hst
          have hlen := txt_len false l (k := k) (by have := HN.out; omega)
          have hy := chr10_toNat hd
          have HK : Hid ((txt false l k).length ≤ 100000) := by show _ ≤ _; rw [hlen]; have := HS.out; omega
          have i0' : 0 ≤ (n : Int) - 1 - k := by omega
          have i1' : (n : Int) - 1 - k < n := by omega
          have i2' : ((n : Int) - 1 - k).toNat = n - 1 - k := by omega
          generalize txt false l k = y at *
          generalize l.getD (n - 1 - k) 0 = x at *
          generalize chr10 x = b at *
          have hy2 : (48 : Int) + (x : Int) = (b.toNat : Nat) := by omega
          have hyb : (b.toNat : Int) ≤ 57 := by omega
          have HSU := Lib.hid hst
          clear hst hlen hy
          go_wp2_with (at_builtin; refine wpList_append_own _ rfl _ _ 48 rfl w.heap.size 5 i0 (.int .u8 0) 1 1 Tryz.underlying48 HI0.out HZ0.out HZ1.out HZ2.out rfl (by decide) u6 y.length (u8l y) (by rfl) (HO.out.alloc _) ⟨wr.heap.size, 0, none⟩ 1 1 [.int .u8 (b.toNat : Nat)] (by rfl) rfl (news_val _ _ _) (one_int _ _) (app_b1 HK.out) (app_b2 HK.out (by decide)) (app_b3 HB.out) ?_; intro v2 w9 hown9 hgrow9 _)
          have HF := Lib.hid (app_u8 (b := b) HO.out HB.out hown9 hgrow9)
          rw [HSU.out] at HF
          clear hown9 hgrow9
          go_wp2_with fail
          go_roundw
          case rel => exact ⟨k + 1, by omega, by go_num, HF.out.1, HF.out.2⟩
          case measure => simp [intOf]; omega
        · have hkn : k = n := by omega
          subst hkn
          have hlen := txt_len false l (k := k) (by have := HN.out; omega)
          have hlen0 : 0 < (txt false l k).length := by omega
          obtain ⟨g3, c3, rfl, hcs⟩ := owns_u8 HO.out hlen0
          have hcv := convB wr g3 c3 _ hcs
          have hRR := HR.out
          rw [← HN.out] at hRR
          rw [hRR] at hcv
          have hll : (txt false l k).length ≤ 60000 := by rw [hlen]; have := HS.out; omega
          generalize (txt false l k).length = L at *
          have hneg : ((k : Int) - 1 - k) < 0 := by omega
          clear hcs hlt hRR hlen hlen0 HO
          go_wp2_with fail
          go_ret2
          exact ⟨rfl, HB.out⟩
end Go.Proofs.YtelckldddflmmaaGreatDoor
/- IntMag: Plain mathematics of layer 3: columns and carries, quotients and roots in groups of four digits. Nothing of the program. -/
namespace Putlog

/-- The number of columns, each times its power of the base. -/
def colV : List Int → Int
  | [] => 0
  | x :: l => x + 10000 * colV l
theorem colV_append : ∀ (l r : List Int), colV (l ++ r) = colV l + 10000 ^ l.length * colV r
  | [], r => by simp [colV]
  | x :: l, r => by
    simp only [List.cons_append, colV, colV_append l r, List.length_cons, Int.pow_succ]
    rw [Int.mul_add, Int.add_assoc, Int.mul_comm (10000 ^ l.length) 10000, Int.mul_assoc]
theorem colV_set : ∀ (l : List Int) (i : Nat) (v : Int), i < l.length → colV (l.set i v) = colV l + 10000 ^ i * (v - l.getD i 0)
  | [], _, _, h => by simp at h
  | x :: l, 0, v, _ => by simp [colV]; omega
  | x :: l, i + 1, v, h => by
    have := colV_set l i v (by simpa using h)
    simp only [List.set_cons_succ, colV, this, List.getD_cons_succ, Int.pow_succ]
    rw [Int.mul_add, Int.mul_comm (10000 ^ i) 10000, Int.mul_assoc]; omega
theorem colV_nat : ∀ l : List Nat, colV (l.map fun x : Nat => (x : Int)) = (leV 10000 l : Nat)
  | [] => rfl
  | x :: l => by simp only [List.map_cons, colV, leV, colV_nat l]; omega
theorem colV_zeros (n : Nat) : colV (List.replicate n 0) = 0 := by
  induction n with
  | zero => rfl
  | succ n ih => rw [List.replicate_succ, colV, ih]; rfl
/-- The groups and the carry of columns. -/
def carryO : Int → List Int → Int
  | c, [] => c
  | c, x :: l => carryO ((c + x) / 10000) l
def carryG : Int → List Int → List Nat
  | _, [] => []
  | c, x :: l => ((c + x) % 10000).toNat :: carryG ((c + x) / 10000) l
theorem carry_val : ∀ (l : List Int) (c : Int), c + colV l = (leV 10000 (carryG c l) : Nat) + 10000 ^ l.length * carryO c l
  | [], c => by simp [colV, carryG, carryO, leV]
  | x :: l, c => by
    have h := carry_val l ((c + x) / 10000)
    simp only [colV, carryG, carryO, leV, List.length_cons, Int.pow_succ]
    rw [Int.mul_comm (10000 ^ l.length) 10000, Int.mul_assoc]
    have h1 : ((((c + x) % 10000).toNat : Nat) : Int) = (c + x) % 10000 := Int.toNat_of_nonneg (Int.emod_nonneg _ (by decide))
    rw [Int.natCast_add, h1, Int.natCast_mul]
    have h2 := Int.mul_ediv_add_emod (c + x) 10000
    generalize (10000 : Int) ^ l.length * carryO ((c + x) / 10000) l = y at *
    generalize colV l = z at *
    omega
theorem carryG_dig : ∀ (l : List Int) (c : Int), DigB 10000 (carryG c l)
  | [], _ => DigB.nil _
  | x :: l, c => DigB.cons (by have := Int.emod_lt_of_pos (c + x) (show (0 : Int) < 10000 by decide); have := Int.emod_nonneg (c + x) (show (10000 : Int) ≠ 0 by decide); omega) (carryG_dig l _)
theorem carryG_len : ∀ (l : List Int) (c : Int), (carryG c l).length = l.length
  | [], _ => rfl
  | x :: l, c => by simp [carryG, carryG_len l]
theorem carryO_snoc : ∀ (l : List Int) (c x : Int), carryO c (l ++ [x]) = (carryO c l + x) / 10000
  | [], c, x => rfl
  | y :: l, c, x => by simp only [List.cons_append, carryO]; exact carryO_snoc l _ x
theorem carryG_snoc : ∀ (l : List Int) (c x : Int), carryG c (l ++ [x]) = carryG c l ++ [((carryO c l + x) % 10000).toNat]
  | [], c, x => rfl
  | y :: l, c, x => by simp only [List.cons_append, carryG, carryO]; rw [carryG_snoc l _ x]
def Bnd (M : Int) (l : List Int) : Prop := ∀ x ∈ l, -M ≤ x ∧ x ≤ M
theorem carryO_bound (M : Int) (hM : 1 ≤ M) : ∀ (l : List Int) (c : Int), Bnd M l → -M ≤ c → c ≤ M → -M ≤ carryO c l ∧ carryO c l ≤ M
  | [], c, _, h1, h2 => ⟨h1, h2⟩
  | x :: l, c, hb, h1, h2 => by
    have hx := hb x (List.mem_cons_self ..)
    refine carryO_bound M hM l _ (fun y hy => hb y (List.mem_cons_of_mem _ hy)) ?_ ?_ <;> omega
theorem pow_cast (n : Nat) : ((10000 ^ n : Nat) : Int) = 10000 ^ n := by simp
/-- The groups of columns whose number has at most one group more. -/
theorem carried_spec (l : List Int) (h0 : 0 ≤ colV l) (h1 : colV l < 10000 ^ (l.length + 1)) :
    0 ≤ carryO 0 l ∧ carryO 0 l < 10000 ∧ trimL (carryG 0 l ++ [(carryO 0 l).toNat]) = digsL 10000 (colV l).toNat := by
  have hv := carry_val l 0
  have hd := carryG_dig l 0
  have hlt := leV_lt hd
  rw [carryG_len] at hlt
  have hlt' : ((leV 10000 (carryG 0 l) : Nat) : Int) < 10000 ^ l.length := by rw [← pow_cast]; omega
  rw [Int.pow_succ] at h1
  have hp : (0 : Int) < 10000 ^ l.length := by rw [← pow_cast]; have : 0 < 10000 ^ l.length := Nat.pow_pos (by decide); omega
  have hco : 0 ≤ carryO 0 l ∧ carryO 0 l < 10000 := by
    constructor
    · refine Int.not_lt.1 fun hn => ?_
      have : (10000 : Int) ^ l.length * carryO 0 l ≤ 10000 ^ l.length * (-1) := Int.mul_le_mul_of_nonneg_left (by omega) (by omega)
      omega
    · refine Int.not_le.1 fun hn => ?_
      have : (10000 : Int) ^ l.length * 10000 ≤ 10000 ^ l.length * carryO 0 l := Int.mul_le_mul_of_nonneg_left (by omega) (by omega)
      omega
  refine ⟨hco.1, hco.2, ?_⟩
  have hd2 : DigB 10000 (carryG 0 l ++ [(carryO 0 l).toNat]) := hd.append (DigB.cons (by omega) (DigB.nil _))
  have hval : leV 10000 (trimL (carryG 0 l ++ [(carryO 0 l).toNat])) = (colV l).toNat := by
    rw [trimL_val, leV_snoc, carryG_len]
    have : ((10000 ^ l.length * (carryO 0 l).toNat : Nat) : Int) = 10000 ^ l.length * carryO 0 l := by
      rw [Int.natCast_mul, pow_cast, Int.toNat_of_nonneg hco.1]
    omega
  rw [← hval, digsL_leV (by decide) (trimL_dig hd2) (trimL_norm _)]

theorem leV_drop {B : Nat} (hB : 2 ≤ B) {l : List Nat} (hd : DigB B l) (k : Nat) (hk : k ≤ l.length) : leV B (l.drop k) = leV B l / B ^ k := by
  have h := leV_append B (l.take k) (l.drop k)
  rw [List.take_append_drop] at h
  have h1 : DigB B (l.take k) := fun x hx => hd x (List.mem_of_mem_take hx)
  have h2 := leV_lt h1
  have h3 : (l.take k).length = k := by simp; omega
  rw [h3] at h h2
  rw [h, Nat.add_mul_div_left _ _ (Nat.pow_pos (by omega)), Nat.div_eq_of_lt h2, Nat.zero_add]
theorem leV_take {B : Nat} (_hB : 2 ≤ B) {l : List Nat} (hd : DigB B l) (k : Nat) (hk : k ≤ l.length) : leV B (l.take k) = leV B l % B ^ k := by
  have h := leV_append B (l.take k) (l.drop k)
  rw [List.take_append_drop] at h
  have h1 : DigB B (l.take k) := fun x hx => hd x (List.mem_of_mem_take hx)
  have h2 := leV_lt h1
  have h3 : (l.take k).length = k := by simp; omega
  rw [h3] at h h2
  rw [h, Nat.add_mul_mod_self_left, Nat.mod_eq_of_lt h2]
theorem leV_set (B : Nat) : ∀ (l : List Nat) (i v : Nat), i < l.length → l.getD i 0 = 0 → leV B (l.set i v) = leV B l + B ^ i * v
  | [], _, _, h, _ => by simp at h
  | x :: l, 0, v, _, h0 => by
    have : x = 0 := by simpa using h0
    subst this; simp [leV]; omega
  | x :: l, i + 1, v, h, h0 => by
    have := leV_set B l i v (by simpa using h) (by simpa using h0)
    simp only [List.set_cons_succ, leV, this, Nat.pow_succ]
    rw [Nat.mul_add, Nat.mul_comm (B ^ i) B, Nat.mul_assoc]; omega
/-- What the uppermost groups leave open. -/
theorem group_bounds {A B K : Nat} (hK : 0 < K) (hB : 1 ≤ B / K) : A / K / (B / K + 1) ≤ A / B ∧ A / B ≤ A / K / (B / K) := by
  have hB0 : 0 < B := by
    rcases Nat.eq_zero_or_pos B with h | h
    · subst h; simp at hB
    · exact h
  have a1 : A / K * K ≤ A := Nat.div_mul_le_self A K
  have b1 : B / K * K ≤ B := Nat.div_mul_le_self B K
  have b2 : B < (B / K + 1) * K := by
    have := Nat.lt_div_mul_add hK (a := B); rw [Nat.add_mul]; omega
  constructor
  · refine (Nat.le_div_iff_mul_le hB0).2 ?_
    have h1 : A / K / (B / K + 1) * (B / K + 1) ≤ A / K := Nat.div_mul_le_self _ _
    calc A / K / (B / K + 1) * B ≤ A / K / (B / K + 1) * ((B / K + 1) * K) := Nat.mul_le_mul_left _ (by omega)
      _ = A / K / (B / K + 1) * (B / K + 1) * K := by rw [Nat.mul_assoc]
      _ ≤ A / K * K := Nat.mul_le_mul_right _ h1
      _ ≤ A := a1
  · refine (Nat.le_div_iff_mul_le (by omega)).2 ?_
    refine (Nat.le_div_iff_mul_le hK).2 ?_
    have h1 : A / B * B ≤ A := Nat.div_mul_le_self _ _
    calc A / B * (B / K) * K = A / B * (B / K * K) := by rw [Nat.mul_assoc]
      _ ≤ A / B * B := Nat.mul_le_mul_left _ b1
      _ ≤ A := h1
/-- The first number of which a test holds that stays true. -/
def Firsts (p : Nat → Bool) (n r : Nat) : Prop := r ≤ n ∧ (r = 0 ∨ p (r - 1) = false) ∧ (r = n ∨ p r = true)
theorem group_found {A B least most r : Nat} (hB : 0 < B) (h1 : least ≤ A / B) (h2 : A / B ≤ most) (hr : Firsts (fun m => decide (A < B * (least + m + 1))) (most - least) r) : least + r = A / B := by
  obtain ⟨h3, h4, h5⟩ := hr
  have up : (A / B + 1) * B > A := by have := Nat.lt_div_mul_add hB (a := A); rw [Nat.add_mul]; omega
  rcases Nat.lt_trichotomy (least + r) (A / B) with h | h | h
  · exfalso
    rcases h5 with h5 | h5
    · omega
    · have h6 : A < B * (least + r + 1) := by simpa using h5
      have h7 : (least + r + 1) * B ≤ A := (Nat.le_div_iff_mul_le hB).1 (by omega)
      rw [Nat.mul_comm] at h7; omega
  · exact h
  · exfalso
    rcases h4 with h4 | h4
    · omega
    · have h6 : B * (least + (r - 1) + 1) ≤ A := by simpa using h4
      have h7 : least + (r - 1) + 1 ≤ A / B := (Nat.le_div_iff_mul_le hB).2 (by rw [Nat.mul_comm]; exact h6)
      omega
/-- One step of the long division. -/
theorem long_step {R b P : Nat} (hP : 0 < P) (hb : 0 < b) (hR : R < b * (P * 10000)) :
    R / P / b < 10000 ∧ R = R % P + P * (R / P % b) + P * (R / P / b) * b ∧ R % P + P * (R / P % b) < b * P := by
  have h1 : R / P < b * 10000 := (Nat.div_lt_iff_lt_mul hP).2 (by rw [Nat.mul_assoc, Nat.mul_comm 10000 P]; exact hR)
  have h2 : R / P / b < 10000 := (Nat.div_lt_iff_lt_mul hb).2 (by rw [Nat.mul_comm]; exact h1)
  have h3 := Nat.div_add_mod R P
  have h4 := Nat.div_add_mod (R / P) b
  have h5 := Nat.mod_lt R hP
  have h6 := Nat.mod_lt (R / P) hb
  refine ⟨h2, ?_, ?_⟩
  · have : P * (R / P) = P * (b * (R / P / b)) + P * (R / P % b) := by rw [← Nat.mul_add, h4]
    rw [Nat.mul_assoc P, Nat.mul_comm (R / P / b) b]; omega
  · have : P * (R / P % b + 1) ≤ P * b := Nat.mul_le_mul_left _ h6
    rw [Nat.mul_comm b P]; rw [Nat.mul_add] at this; omega
/-- One step of the root. -/
theorem root_step {A r P k : Nat} (h1 : r * r ≤ A) (h2 : A < (r + P * 10000) * (r + P * 10000))
    (hk : Firsts (fun g => decide (A < (r + P * g) * (r + P * g))) 10000 k) :
    1 ≤ k ∧ (r + P * (k - 1)) * (r + P * (k - 1)) ≤ A ∧ A < (r + P * (k - 1) + P) * (r + P * (k - 1) + P) := by
  obtain ⟨h3, h4, h5⟩ := hk
  have hk1 : 1 ≤ k := by
    rcases Nat.eq_zero_or_pos k with h | h
    · subst h
      rcases h5 with h5 | h5
      · omega
      · have : A < (r + P * 0) * (r + P * 0) := by simpa using h5
        simp at this; omega
    · exact h
  refine ⟨hk1, ?_, ?_⟩
  · rcases h4 with h4 | h4
    · omega
    · simpa using h4
  · have e : r + P * (k - 1) + P = r + P * k := by
      rw [Nat.add_assoc, ← Nat.mul_succ]; congr 2; omega
    rw [e]
    rcases h5 with h5 | h5
    · subst h5; exact h2
    · simpa using h5
end Putlog
/- IntMem: Magnitudes in memory: slices of groups that are read, rows of numbers that are written. -/
namespace Go.Proofs.YtelckldddflmmaaGreatDoor
open Go.RowKit Putlog

/-- A list of numbers as values. -/
def vals (l : List Int) : List Value := l.map fun x => .int .i64 x
theorem vals_get {l : List Int} {j : Nat} (h : j < l.length) : (vals l)[j]? = some (.int .i64 (l.getD j 0)) := by simp [vals, List.getD_eq_getElem?_getD, h]
theorem vals_len (l : List Int) : (vals l).length = l.length := by simp [vals]
/-- The numbers of a list of natural ones. -/
def ofN (l : List Nat) : List Int := l.map fun x : Nat => (x : Int)
theorem ofN_len (l : List Nat) : (ofN l).length = l.length := by simp [ofN]
theorem ofN_get (l : List Nat) (j : Nat) : (ofN l).getD j 0 = (l.getD j 0 : Nat) := by
  simp only [ofN, List.getD_eq_getElem?_getD, List.getElem?_map]
  cases l[j]? <;> rfl
theorem vals_ofN (l : List Nat) : vals (ofN l) = i64l l := by simp [vals, ofN, i64l]
/-- The cells of an address hold these numbers. -/
def CellsAt (w : World) (a : Option Addr) (l : List Int) : Prop := l = [] ∨ ∃ g o, a = some ⟨g, o, none⟩ ∧ ∀ j, j < l.length → w.cell? ⟨g, o + j, none⟩ = some (.int .i64 (l.getD j 0))
theorem CellsAt.via {w w' : World} {a : Option Addr} {l : List Int} (hB : Below w.heap.size w w') (h : CellsAt w a l) : CellsAt w' a l := by
  rcases h with h | ⟨g, o, h1, h2⟩
  · exact .inl h
  · exact .inr ⟨g, o, h1, fun j hj => keptBelow hB (h2 j hj)⟩
/-- From a world whose first blocks are those of an earlier one. -/
theorem CellsAt.old {w0 w : World} {a : Option Addr} {l : List Int} (h : CellsAt w0 a l) (hB : Below w0.heap.size w0 w) : CellsAt w a l := h.via hB
/-- A slice that holds these numbers: of the length, with room. -/
def Room (n c : Nat) : Prop := n ≤ c ∧ (c : Int) ≤ 9223372036854775807
theorem Room.zero : Room 0 0 := ⟨Nat.le_refl _, by omega⟩
/-- A magnitude: a slice of groups. -/
def MagAt (w : World) (v : Value) (l : List Nat) : Prop := ∃ a c, v = .slice a l.length c ∧ Room l.length c ∧ CellsAt w a (ofN l)
theorem MagAt.via {w w' : World} {v : Value} {l : List Nat} (hB : Below w.heap.size w w') (h : MagAt w v l) : MagAt w' v l := by
  obtain ⟨a, c, h1, h2, h3⟩ := h
  exact ⟨a, c, h1, h2, h3.via hB⟩
/-- A magnitude in memory that lies behind the first blocks, at the head of a block. -/
def MagNew (w : World) (base : Nat) (v : Value) (l : List Nat) : Prop := ∃ g c, v = .slice (some ⟨g, 0, none⟩) l.length c ∧ base ≤ g ∧ Room l.length c ∧ ∀ j, j < l.length → w.cell? ⟨g, j, none⟩ = some (.int .i64 (l.getD j 0 : Nat))
theorem MagNew.mag {w : World} {base : Nat} {v : Value} {l : List Nat} (h : MagNew w base v l) : MagAt w v l := by
  obtain ⟨g, c, h1, _, h2, h3⟩ := h
  refine ⟨_, c, h1, h2, ?_⟩
  rcases Nat.eq_zero_or_pos l.length with h0 | h0
  · exact .inl (List.length_eq_zero_iff.1 (by rw [ofN_len]; exact h0))
  · exact .inr ⟨g, 0, rfl, fun j hj => by rw [Nat.zero_add, ofN_get]; rw [ofN_len] at hj; exact h3 j hj⟩
theorem MagNew.mono {w : World} {b b' : Nat} {v : Value} {l : List Nat} (h : MagNew w b v l) (hb : b' ≤ b) : MagNew w b' v l := by
  obtain ⟨g, c, h1, h2, h3⟩ := h
  exact ⟨g, c, h1, by omega, h3⟩
/-- A row that may be written. -/
def RowAt (w : World) (g : Nat) (C : List Int) : Prop := ∀ j, j < C.length → w.cell? ⟨g, j, none⟩ = some (.int .i64 (C.getD j 0)) ∧ w.frozen? ⟨g, j, none⟩ = false
theorem RowAt.cells {w : World} {g : Nat} {C : List Int} (h : RowAt w g C) : CellsAt w (some ⟨g, 0, none⟩) C := .inr ⟨g, 0, rfl, fun j hj => by rw [Nat.zero_add]; exact (h j hj).1⟩
theorem RowAt.via {w w' : World} {g : Nat} {C : List Int} (h : RowAt w g C) (hB : Below w.heap.size w w') : RowAt w' g C := fun j hj => by
  obtain ⟨h1, h2⟩ := h j hj
  refine ⟨keptBelow hB h1, ?_⟩
  have hlt := lt_of_cell h1
  have h3 := hB.block g hlt
  rw [← h2]
  simp only [World.frozen?, h3]
theorem getD_set (C : List Int) (i j : Nat) (x : Int) (hi : i < C.length) : (C.set i x).getD j 0 = if j = i then x else C.getD j 0 := by
  simp only [List.getD_eq_getElem?_getD, List.getElem?_set]
  by_cases h : i = j
  · subst h; simp [hi]
  · rw [if_neg h, if_neg (fun e => h e.symm)]
theorem RowAt.set {w : World} {g : Nat} {C : List Int} (h : RowAt w g C) (i : Nat) (hi : i < C.length) (x : Int) : RowAt (w.setCell ⟨g, i, none⟩ (.int .i64 x)) g (C.set i x) := fun j hj => by
  rw [List.length_set] at hj
  refine ⟨?_, by rw [World.frozen?_setCell]; exact (h j hj).2⟩
  rw [getD_set C i j x hi]
  by_cases e : j = i
  · subst e
    rw [if_pos rfl]
    exact World.cell?_setCell_same' _ _ _ (by rw [(h j hj).1]; rfl)
  · rw [if_neg e, World.cell?_setCell_other _ _ _ _ (fun h => e (by have := congrArg Addr.off h; simp at this; omega))]
    exact (h j hj).1
theorem below_set {B : Nat} {a w : World} (h : Below B a w) {g i : Nat} (hg : B ≤ g) (x : Value) : Below B a (w.setCell ⟨g, i, none⟩ x) := h.setCell (p := ⟨g, i, none⟩) hg x
/-- What an owned slice of numbers is. -/
theorem owns_row {w : World} {B : Nat} {t : TypeId} {v : Value} {C : List Int} (h : w.ownsRow B t 1 v C.length (vals C)) :
    (C = [] ∧ ∃ a c, v = .slice a 0 c ∧ Room 0 c) ∨ (0 < C.length ∧ ∃ g c, v = .slice (some ⟨g, 0, none⟩) C.length c ∧ Room C.length c ∧ B ≤ g ∧ RowAt w g C) := by
  rcases Nat.eq_zero_or_pos C.length with h0 | h0
  · obtain ⟨a, c, h1, h2, h3, _⟩ := ownsRow_form h
    rw [h0] at h1 h2
    exact .inl ⟨List.length_eq_zero_iff.1 h0, a, c, h1, h2, h3⟩
  · obtain ⟨e0, hv | ⟨g, cap, cur, hv, hg, hh, h1, h2, h3, h4⟩⟩ := h
    · obtain ⟨h1, h2⟩ := hv; omega
    · refine .inr ⟨h0, g, cap, hv, ⟨h1, by unfold maxLen at h2; omega⟩, hg, fun j hj => ⟨?_, by simp [World.frozen?, hh]⟩⟩
      rw [cell_of_row w g j cur _ (0, 0) hh]
      rw [Nat.mul_one] at h4 e0
      have h5 : (cur.toList.take C.length)[j]? = (vals C)[j]? := by rw [h4]
      rw [List.getElem?_take_of_lt hj, Array.getElem?_toList] at h5
      rw [h5, vals_get hj]
theorem bnd_set {M : Int} {C : List Int} (h : Bnd M C) (i : Nat) {x : Int} (h1 : -M ≤ x) (h2 : x ≤ M) : Bnd M (C.set i x) := fun y hy => by
  rcases List.mem_or_eq_of_mem_set hy with hy | hy
  · exact h y hy
  · subst hy; exact ⟨h1, h2⟩
theorem bnd_get {M : Int} {C : List Int} (h : Bnd M C) {j : Nat} (hj : j < C.length) : -M ≤ C.getD j 0 ∧ C.getD j 0 ≤ M := by
  rw [List.getD_eq_getElem?_getD, List.getElem?_eq_getElem hj, Option.getD_some]
  exact h _ (List.getElem_mem _)
theorem bnd_ofN {l : List Nat} (h : DigB 10000 l) : Bnd 9999 (ofN l) := fun x hx => by
  obtain ⟨n, hn, rfl⟩ := List.mem_map.1 hx
  have := h n hn; omega
theorem Bnd.mono {M N : Int} {C : List Int} (h : Bnd M C) (k : M ≤ N) : Bnd N C := fun x hx => by have := h x hx; omega
theorem digB_get {B : Nat} {l : List Nat} (h : DigB B l) {j : Nat} (hj : j < l.length) : l.getD j 0 < B := by
  rw [List.getD_eq_getElem?_getD, List.getElem?_eq_getElem hj, Option.getD_some]
  exact h _ (List.getElem_mem _)
end Go.Proofs.YtelckldddflmmaaGreatDoor
/- IntTrim: The contract of trimmed. -/
namespace Go.Proofs.YtelckldddflmmaaGreatDoor
open Go.RowKit Putlog

def ilen : Value → Nat
  | .int _ n => n.toNat
  | _ => 0
set_option maxRecDepth 100000 in
set_option maxHeartbeats 2000000 in
theorem trimmed_any (l : List Nat) (hl : l.length ≤ 100000) (a : Option Addr) (c : Nat) (w : World) (hr : Room l.length c) (hv : CellsAt w a (ofN l)) :
    Calls Tryz.prog 119 #[.slice a l.length c] w fun e w' => e = .returned (.slice a (trimL l).length c) ∧ w' = w := by
  obtain ⟨hc1, hc2⟩ := hr
  have HV := Lib.hid hv
  clear hv
  obtain ⟨n, hn⟩ : ∃ n, n = l.length := ⟨_, rfl⟩
  rw [← hn] at hl hc1 ⊢
  have HN := Lib.hid hn
  have hlb : (n : Int) ≤ 100000 := by omega
  clear hn
  go_enter Tryz.func119, Tryz.ntmps119
  go_wp2_with fail
  go_loop [3] (fun v => ∃ k : Nat, k ≤ n ∧ v = .int .i64 k ∧ trimL (l.take k) = trimL l) (fun v => ilen v)
  case atStart => exact ⟨n, Nat.le_refl _, rfl, by rw [HN.out, List.take_length]⟩
  case round =>
    obtain ⟨k, hk, rfl, ht⟩ := hrel
    have hkb : (k : Int) ≤ 100000 := by omega
    have hkc : (k : Int) ≤ c := by omega
    rcases Nat.eq_zero_or_pos k with rfl | h0
    · have HT : Hid (trimL l = []) := by show trimL l = []; rw [← ht]; rfl
      clear ht
      go_wp2_with fail
      go_ret
      refine ⟨?_, rfl⟩
      rw [HT.out]; rfl
    · obtain ⟨q, rfl⟩ : ∃ q, k = q + 1 := ⟨k - 1, by omega⟩
      obtain ⟨hs1, hs2⟩ := trim_step (l := l) (k := q) (by have := HN.out; omega)
      have hnil : ofN l ≠ [] := fun e => by
        have h1 : (ofN l).length = 0 := by rw [e]; rfl
        rw [ofN_len] at h1; have := HN.out; omega
      obtain ⟨g, o, rfl, hcell⟩ := HV.out.resolve_left hnil
      have hc := hcell q (by rw [ofN_len]; have := HN.out; omega)
      rw [ofN_get] at hc
      by_cases hx : l.getD q 0 = 0
      · have HM : Hid (trimL (l.take q) = trimL l) := by show _ = _; rw [← hs1 hx]; exact ht
        rw [hx] at hc
        clear ht hs1 hs2 hx hcell hnil
        go_wp2_with fail
        go_round
        case rel => exact ⟨q, by omega, rfl, HM.out⟩
        case measure => simp [ilen]
      · have HT : Hid (trimL l = l.take (q + 1)) := by show _ = _; rw [← ht]; exact hs2 hx
        have hxb : ((l.getD q 0 : Nat) : Int) ≠ 0 := by omega
        have hxe : (((l.getD q 0 : Nat) : Int) == 0) = false := by simpa using hxb
        generalize l.getD q 0 = x at *
        clear ht hs1 hs2 hcell hnil
        go_wp2_with fail
        go_ret
        refine ⟨?_, rfl⟩
        rw [HT.out]
        have : (l.take (q + 1)).length = q + 1 := by simp; have := HN.out; omega
        rw [this]; rfl
end Go.Proofs.YtelckldddflmmaaGreatDoor
/- IntCarry: The contract of carried: its closure, the fold over it. -/
namespace Go.Proofs.YtelckldddflmmaaGreatDoor
open Go.RowKit Putlog

/-- A captured slice: the block of the variable, and the slice that it holds, which the call owns. -/
def BoxOwn (w : World) (base Bx : Nat) (G : List Nat) : Prop := ∃ v, w.heap[Bx]? = some (.cells #[v] 80 (0, 0)) ∧ w.ownsRow base 3 1 v G.length (i64l G)
theorem emod_tmod (x : Int) : ((x.tmod 10000) + 10000).tmod 10000 = x % 10000 := by
  have h1 := Int.tmod_lt_of_pos x (show (0 : Int) < 10000 by decide)
  have h2 : -10000 < x.tmod 10000 := by have := Int.lt_tmod_of_pos x (show (0 : Int) < 10000 by decide); omega
  have h3 : (0 : Int) ≤ x.tmod 10000 + 10000 := by omega
  have h4 := Int.tmod_add_mul_tdiv x 10000
  rw [Int.tmod_eq_emod_of_nonneg h3, Int.add_emod_right]
  generalize x.tmod 10000 = t at *
  generalize x.tdiv 10000 = q at *
  omega
theorem app_b3' {w : World} {base Bx : Nat} {ob o : Obj} (h : w.heap[Bx]? = some ob) (hb : base ≤ Bx) : base ≤ (w.alloc o).heap.size := by have := lt_of_block h; simp; omega
/-- What an append to the captured slice leaves, and the store of its result. -/
theorem box_step {w w9 : World} {base Bx d : Nat} {G : List Nat} {v v2 : Value} {o : Obj} (hv : w.heap[Bx]? = some (.cells #[v] 80 (0, 0))) (hown : w.ownsRow base 3 1 v G.length (i64l G)) (hb : base ≤ Bx)
    (hown9 : w9.ownsRow base 3 1 v2 (G.length + 1) (i64l G ++ [.int .i64 (d : Nat)])) (hg : (w.alloc o).grownBy w9 v.ownBlock) :
    ∃ a2 c2, v2 = .slice a2 (G.length + 1) c2 ∧ w9.cell? ⟨Bx, 0, none⟩ = some v ∧ w9.frozen? ⟨Bx, 0, none⟩ = false ∧ BoxOwn (w9.setCell ⟨Bx, 0, none⟩ (.slice a2 (G.length + 1) c2)) base Bx (G ++ [d]) ∧ Below base w (w9.setCell ⟨Bx, 0, none⟩ (.slice a2 (G.length + 1) c2)) := by
  have hlt := lt_of_block hv
  have hvb : v.ownBlock ≠ some Bx := by
    intro e
    obtain ⟨_, ⟨rfl, _⟩ | ⟨g, cap, cur, rfl, hg, hh, _⟩⟩ := hown
    · simp [Value.ownBlock] at e
    · simp [Value.ownBlock] at e
      subst e
      rw [hh] at hv; simp at hv
  have hva : (w.alloc o).heap[Bx]? = some (.cells #[v] 80 (0, 0)) := by rw [← hv]; exact (Below.refl w.heap.size w).alloc (Nat.le_refl _) o |>.block Bx hlt
  have hv9 : w9.heap[Bx]? = some (.cells #[v] 80 (0, 0)) := (hg.block Bx (lt_of_block hva) (fun e => hvb e.symm)).trans hva
  obtain ⟨a2, c2, rfl, _⟩ := ownsRow_form hown9
  have hB9 : Below base w w9 := ((Below.refl base w).alloc (by omega) o).grown hg (by simp; try omega) (fun k e => by
    obtain ⟨_, ⟨rfl, _⟩ | ⟨g, cap, cur, rfl, hg2, hh, _⟩⟩ := hown
    · simp [Value.ownBlock] at e
    · simp [Value.ownBlock] at e; subst e; exact hg2)
  refine ⟨a2, c2, rfl, cell_of_one hv9, free_of_one hv9, ⟨_, one_setCell hv9, ?_⟩, hB9.setCell (p := ⟨Bx, 0, none⟩) hb _⟩
  rw [i64l_snoc, List.length_append]
  refine ownsRow_setCell_other hown9 (fun e => ?_) _
  obtain ⟨_, ⟨h, _⟩ | ⟨g, cap, cur, h, _, hh, _⟩⟩ := hown9
  · cases h; try simp [Value.ownBlock] at e
  · cases h
    simp [Value.ownBlock] at e
    subst e
    rw [hh] at hv9; simp at hv9
set_option maxRecDepth 100000 in
set_option maxHeartbeats 2000000 in
theorem carried1_any (base Bx : Nat) (G : List Nat) (cr x : Int) (w : World) (hG : G.length ≤ 50000) (hc : -1000000000000000 ≤ cr ∧ cr ≤ 1000000000000000) (hx : -1000000000000000 ≤ x ∧ x ≤ 1000000000000000) (hb : base ≤ Bx) (hbox : BoxOwn w base Bx G) :
    Calls Tryz.prog 143 #[.int .i64 cr, .int .i64 x, .pointer (some ⟨Bx, 0, none⟩)] w fun e w' => e = .returned (.int .i64 ((cr + x) / 10000)) ∧ BoxOwn w' base Bx (G ++ [((cr + x) % 10000).toNat]) ∧ Below base w w' := by
  obtain ⟨v, hv, hown⟩ := hbox
  obtain ⟨i0, hi0, hz0, hz1, hz2⟩ := info_parts info_int
  have HI0 := Lib.hid hi0
  have HZ0 := Lib.hid hz0
  have HZ1 := Lib.hid hz1
  have HZ2 := Lib.hid hz2
  have cB := cell_of_one hv
  have fB := free_of_one hv
  have HV := Lib.hid hv
  have HO := Lib.hid hown
  clear hi0 hz0 hz1 hz2 hv hown
  obtain ⟨s, hs⟩ : ∃ s, s = cr + x := ⟨_, rfl⟩
  obtain ⟨d, hd⟩ : ∃ d, d = (s % 10000).toNat := ⟨_, rfl⟩
  have h1 : (s.tmod 10000 + 10000).tmod 10000 = (d : Nat) := by rw [emod_tmod]; omega
  have h2 : (s - (d : Nat)).tdiv 10000 = s / 10000 := by
    have : s - (d : Nat) = s / 10000 * 10000 := by omega
    rw [this, Int.mul_tdiv_cancel _ (by decide)]
  have hs0 : cr + x = s := hs.symm
  obtain ⟨q, hq⟩ : ∃ q, q = s / 10000 := ⟨_, rfl⟩
  obtain ⟨t, ht⟩ : ∃ t, t = s.tmod 10000 := ⟨_, rfl⟩
  have ht1 := Int.tmod_lt_of_pos s (show (0 : Int) < 10000 by decide)
  have ht2 : -10000 < s.tmod 10000 := by have := Int.lt_tmod_of_pos s (show (0 : Int) < 10000 by decide); omega
  rw [hs0, ← hd, ← hq]
  rw [← ht] at h1 ht1 ht2
  rw [← hq] at h2
  have hd9 : (d : Int) < 10000 := by omega
  have ht0 : s.tmod 10000 = t := ht.symm
  have hsb : -2000000000000000 ≤ s ∧ s ≤ 2000000000000000 := by omega
  have hqb1 : -2000000000000000 ≤ q := by omega
  have hqb2 : q ≤ 2000000000000000 := by omega
  clear hs hd hq ht
  have HK : Hid (G.length ≤ 100000) := by show _ ≤ _; omega
  go_enter Tryz.func143, Tryz.ntmps143
  go_wp2_with (at_builtin; refine wpList_append_own _ rfl _ _ 80 rfl base 3 i0 (.int .i64 0) 1 8 Tryz.underlying80 HI0.out HZ0.out HZ1.out HZ2.out rfl (by decide) v G.length (i64l G) (by rfl) (HO.out.alloc _) ⟨w.heap.size, 0, none⟩ 1 1 [.int .i64 (d : Nat)] (by rfl) rfl (news_val _ _ _) (one_int _ _) (app_b1 HK.out) (app_b2 HK.out (by decide)) (app_b3' HV.out hb) ?_; intro v2 w9 hown9 hgrow9 _; obtain ⟨a2, c2, rfl, cB9, fB9, hX, hB9⟩ := box_step (d := d) HV.out HO.out hb hown9 hgrow9; have HX := Lib.hid hX; have HB9 := Lib.hid hB9; clear hown9 hgrow9 hX hB9)
  go_ret
  exact ⟨rfl, HX.out, HB9.out⟩
end Go.Proofs.YtelckldddflmmaaGreatDoor
/- IntCarried: The contract of carried: the fold over its closure. -/
namespace Go.Proofs.YtelckldddflmmaaGreatDoor
open Go.RowKit Putlog

theorem take_bnd {M : Int} {C : List Int} (h : Bnd M C) (k : Nat) : Bnd M (C.take k) := fun x hx => h x (List.mem_of_mem_take hx)
theorem take_next {C : List Int} {k : Nat} (h : k < C.length) : C.take (k + 1) = C.take k ++ [C.getD k 0] := by
  rw [List.take_succ_eq_append_getElem h]; simp [List.getD_eq_getElem?_getD, h]
set_option maxRecDepth 100000 in
set_option maxHeartbeats 2000000 in
theorem foldC_any (base Bx : Nat) (C : List Int) (a : Option Addr) (c : Nat) (w0 w : World) (hC : C.length ≤ 50000) (hM : Bnd 1000000000000000 C) (hr : Room C.length c) (hb : base ≤ Bx) (hw0 : w0.heap.size = base) (hbel : Below base w0 w) (hcells : CellsAt w0 a C) (hbox : BoxOwn w base Bx []) :
    Calls Tryz.prog 142 #[.slice a C.length c, .int .i64 0, .func (.func 143) #[] #[.pointer (some ⟨Bx, 0, none⟩)]] w fun e w' => e = .returned (.int .i64 (carryO 0 C)) ∧ BoxOwn w' base Bx (carryG 0 C) ∧ Below base w0 w' := by
  obtain ⟨hc1, hc2⟩ := hr
  have HM := Lib.hid hM
  have HB0 := Lib.hid hbel
  have HC := Lib.hid hcells
  have HX0 := Lib.hid hbox
  obtain ⟨n, hn⟩ : ∃ n, n = C.length := ⟨_, rfl⟩
  rw [← hn] at hC hc1 ⊢
  have HN := Lib.hid hn
  have HW := Lib.hid hw0
  have hlb : (n : Int) ≤ 50000 := by omega
  clear hn hM hbel hcells hbox hw0
  go_enter Tryz.func142, Tryz.ntmps142
  go_wp2_with fail
  go_loopw [1, 11] (fun v i wr => ∃ k : Nat, k ≤ n ∧ i = .int .i64 k ∧ v = .int .i64 (carryO 0 (C.take k)) ∧ BoxOwn wr base Bx (carryG 0 (C.take k)) ∧ Below base w0 wr) (fun _ i _ => n - (intOf i).toNat)
  case atStart => exact ⟨0, by omega, rfl, rfl, HX0.out, HB0.out⟩
  case round =>
    obtain ⟨k, hk, rfl, rfl, hX, hB⟩ := hrel
    have HX := Lib.hid hX
    have HB := Lib.hid hB
    clear hX hB
    by_cases hlt : k < n
    · have hlt' : (k : Int) < n := by omega
      have hkC : k < C.length := by have := HN.out; omega
      have hnil : C ≠ [] := fun e => by rw [e] at hkC; simp at hkC
      obtain ⟨g, o, rfl, hcell⟩ := HC.out.resolve_left hnil
      have hcx : wr.cell? ⟨g, o + k, none⟩ = some (.int .i64 (C.getD k 0)) := by
        have h := hcell k hkC
        exact (HB.out.cell (p := ⟨g, o + k, none⟩) (by have := lt_of_cell h; have := HW.out; show g < base; omega)).trans h
      have hx := bnd_get HM.out hkC
      have hco := carryO_bound 1000000000000000 (by decide) (C.take k) 0 (take_bnd HM.out k) (by decide) (by decide)
      have hn1 := take_next hkC
      have ho1 := carryO_snoc (C.take k) 0 (C.getD k 0)
      have hg1 := carryG_snoc (C.take k) 0 (C.getD k 0)
      rw [← hn1] at ho1 hg1
      have hgl := carryG_len (C.take k) 0
      have HG : Hid ((carryG 0 (C.take k)).length ≤ 50000) := by show _ ≤ _; rw [hgl]; simp; omega
      have HO1 := Lib.hid ho1
      have HG1 := Lib.hid hg1
      clear hn1 ho1 hg1 hgl hnil hcell hkC
      generalize carryO 0 (C.take k) = co at *
      generalize carryG 0 (C.take k) = G at *
      generalize C.getD k 0 = x at *
      go_wp2_with (go_at_call 143; refine (carried1_any base Bx G co x wr HG.out hco hx hb HX.out).mono ?_; rintro e w1 ⟨rfl, hX1, hB1⟩; have HX1 := Lib.hid hX1; have HB1 := Lib.hid (HB.out.trans hB1); clear hX1 hB1)
      go_roundw
      case rel => exact ⟨k + 1, by omega, by go_num, by rw [HO1.out], by rw [HG1.out]; exact HX1.out, HB1.out⟩
      case measure => simp [intOf]; omega
    · obtain rfl : k = n := by omega
      have ht : C.take k = C := by rw [HN.out, List.take_length]
      rw [ht] at HX ⊢
      go_wp2_with fail
      go_ret
      exact ⟨rfl, HX.out, HB.out⟩
/-- From an owned slice of groups, cut to a beginning that is not longer. -/
theorem mag_of_owns {w : World} {base : Nat} {v : Value} {l : List Nat} (h : w.ownsRow base 3 1 v l.length (i64l l)) (h0 : 0 < l.length) :
    ∃ g c, v = .slice (some ⟨g, 0, none⟩) l.length c ∧ base ≤ g ∧ Room l.length c ∧ ∀ j, j < l.length → w.cell? ⟨g, j, none⟩ = some (.int .i64 (l.getD j 0 : Nat)) := by
  have h' : w.ownsRow base 3 1 v (ofN l).length (vals (ofN l)) := by rw [ofN_len, vals_ofN]; exact h
  rcases owns_row h' with ⟨h1, _⟩ | ⟨_, g, c, h1, h2, h3, h4⟩
  · have h2 : (ofN l).length = 0 := by rw [h1]; rfl
    rw [ofN_len] at h2; omega
  · rw [ofN_len] at h1 h2
    refine ⟨g, c, h1, h3, h2, fun j hj => ?_⟩
    have := (h4 j (by rw [ofN_len]; exact hj)).1
    rwa [ofN_get] at this
theorem mag_trim {w : World} {base g c : Nat} {l : List Nat} (hg : base ≤ g) (hr : Room l.length c) (h : ∀ j, j < l.length → w.cell? ⟨g, j, none⟩ = some (.int .i64 (l.getD j 0 : Nat))) : MagNew w base (.slice (some ⟨g, 0, none⟩) (trimL l).length c) (trimL l) := by
  have h1 := trimL_le l
  refine ⟨g, c, rfl, hg, ⟨by have := hr.1; omega, hr.2⟩, fun j hj => ?_⟩
  rw [h j (by omega)]
  conv => rhs; rw [trimL_take l, take_getD l hj]
/-- What the last append leaves. -/
theorem tail_step {w w9 : World} {base Bx d : Nat} {G : List Nat} {v v2 : Value} {o : Obj} (hv : w.heap[Bx]? = some (.cells #[v] 80 (0, 0))) (hown : w.ownsRow base 3 1 v G.length (i64l G)) (hb : base ≤ Bx)
    (hown9 : w9.ownsRow base 3 1 v2 (G.length + 1) (i64l G ++ [.int .i64 (d : Nat)])) (hg : (w.alloc o).grownBy w9 v.ownBlock) :
    ∃ g c, v2 = .slice (some ⟨g, 0, none⟩) (G.length + 1) c ∧ base ≤ g ∧ Room (G ++ [d]).length c ∧ CellsAt w9 (some ⟨g, 0, none⟩) (ofN (G ++ [d])) ∧ (∀ j, j < (G ++ [d]).length → w9.cell? ⟨g, j, none⟩ = some (.int .i64 ((G ++ [d]).getD j 0 : Nat))) ∧ Below base w w9 := by
  have hlt := lt_of_block hv
  have hB9 : Below base w w9 := ((Below.refl base w).alloc (by omega) o).grown hg (by simp; try omega) (fun k e => by
    obtain ⟨_, ⟨rfl, _⟩ | ⟨g, cap, cur, rfl, hg2, hh, _⟩⟩ := hown
    · simp [Value.ownBlock] at e
    · simp [Value.ownBlock] at e; subst e; exact hg2)
  have hx : w9.ownsRow base 3 1 v2 (G ++ [d]).length (i64l (G ++ [d])) := by rw [i64l_snoc, List.length_append]; exact hown9
  obtain ⟨g, c, rfl, h1, h2, h3⟩ := mag_of_owns hx (by simp)
  exact ⟨g, c, by simp, h1, h2, .inr ⟨g, 0, rfl, fun j hj => by rw [Nat.zero_add, ofN_get]; rw [ofN_len] at hj; exact h3 j hj⟩, h3, hB9⟩
theorem belowMade {w w1 : World} (hg : w.grownBy w1 none) : Below w.heap.size w w1 := (Below.refl w.heap.size w).grown hg (Nat.le_refl _) (fun k e => by cases e)
theorem box_new {w1 : World} {base : Nat} {v : Value} {G : List Nat} (h : w1.ownsRow base 3 1 v G.length (i64l G)) : BoxOwn (w1.alloc (.cells #[v] 80)) base w1.heap.size G :=
  ⟨v, heap_alloc_new w1 _, h.alloc _⟩
set_option maxRecDepth 100000 in
set_option maxHeartbeats 2000000 in
theorem carried_any (C : List Int) (a : Option Addr) (c : Nat) (w : World) (hC : C.length ≤ 40000) (hM : Bnd 1000000000000000 C) (hr : Room C.length c) (hcells : CellsAt w a C) (h0 : 0 ≤ colV C) (h1 : colV C < 10000 ^ (C.length + 1)) :
    Calls Tryz.prog 122 #[.slice a C.length c] w fun e w' => (∃ v, e = .returned v ∧ MagNew w' w.heap.size v (digsL 10000 (colV C).toNat)) ∧ Below w.heap.size w w' := by
  obtain ⟨i0, hi0, hz0, hz1, hz2⟩ := info_parts info_int
  have HI0 := Lib.hid hi0
  have HZ0 := Lib.hid hz0
  have HZ1 := Lib.hid hz1
  have HZ2 := Lib.hid hz2
  have HM := Lib.hid hM
  have HR := Lib.hid hr
  have HC := Lib.hid hcells
  obtain ⟨s1, s2, s3⟩ := carried_spec C h0 h1
  have HS := Lib.hid s3
  have hgl := carryG_len C 0
  have HGL := Lib.hid hgl
  obtain ⟨d, hd⟩ : ∃ d : Nat, d = (carryO 0 C).toNat := ⟨_, rfl⟩
  have hco : carryO 0 C = (d : Nat) := by omega
  rw [← hd] at HS
  have HCO := Lib.hid hco
  have hdb : (d : Int) < 10000 := by omega
  have hlb : (C.length : Int) ≤ 40000 := by omega
  clear hi0 hz0 hz1 hz2 hM hr hcells h0 h1 s1 s2 s3 hgl hd hco
  go_enter Tryz.func122, Tryz.ntmps122
  go_wp2_with (at_make; go_must (refine wpList_make_own _ rfl _ _ 80 rfl w.heap.size 3 i0 (.int .i64 0) 1 Tryz.underlying80 HI0.out HZ0.out HZ1.out .i64 .i64 ((C.length : Int) + 1) (C.length + 1) rfl rfl (by omega) (by rw [HZ2.out]; omega) (by unfold maxLen; omega) (Nat.le_refl _) ?_); intro w1 hown hgrow; have HO := Lib.hid hown; have HB := Lib.hid (belowMade hgrow); clear hown hgrow)
  refine (foldC_any w.heap.size w1.heap.size C a c w _ (by omega) HM.out HR.out HB.out.size rfl (HB.out.alloc HB.out.size _) HC.out (box_new HO.out)).mono ?_
  rintro e w3 ⟨rfl, ⟨v3, hv3, hown3⟩, hB3⟩
  have hc3 := cell_of_one hv3
  rw [HCO.out]
  have HV3 := Lib.hid hv3
  have HO3 := Lib.hid hown3
  have HB3 := Lib.hid hB3
  clear hv3 hown3 hB3
  have HK : Hid ((carryG 0 C).length ≤ 100000) := by show _ ≤ _; rw [HGL.out]; omega
  go_wp2_with (at_builtin; refine wpList_append_own _ rfl _ _ 80 rfl w.heap.size 3 i0 (.int .i64 0) 1 8 Tryz.underlying80 HI0.out HZ0.out HZ1.out HZ2.out rfl (by decide) v3 (carryG 0 C).length (i64l (carryG 0 C)) (by rfl) (HO3.out.alloc _) ⟨w3.heap.size, 0, none⟩ 1 1 [.int .i64 (d : Nat)] (by rfl) rfl (news_val _ _ _) (one_int _ _) (app_b1 HK.out) (app_b2 HK.out (by decide)) (app_b3' HV3.out HB.out.size) ?_; intro v4 w9 hown9 hgrow9 _; obtain ⟨g4, c4, rfl, hw4⟩ := tail_step (d := d) HV3.out HO3.out HB.out.size hown9 hgrow9; have HW4 := Lib.hid hw4; clear hown9 hgrow9 hw4)
  have hlen : (carryG 0 C ++ [d]).length = (carryG 0 C).length + 1 := by simp
  have ht := trimmed_any (carryG 0 C ++ [d]) (by rw [hlen]; have := HK.out; have := HGL.out; omega) (some ⟨g4, 0, none⟩) c4 w9 HW4.out.2.1 HW4.out.2.2.1
  rw [hlen] at ht
  refine ht.mono ?_
  rintro e w10 ⟨rfl, rfl⟩
  clear ht
  go_wp2_with fail
  go_ret
  refine ⟨⟨_, rfl, ?_⟩, HB3.out.trans HW4.out.2.2.2.2⟩
  rw [← HS.out]
  exact mag_trim HW4.out.1 HW4.out.2.1 HW4.out.2.2.2.1
end Go.Proofs.YtelckldddflmmaaGreatDoor
/- IntSums: The contracts of the copy, of sums, differences and multiples of magnitudes. -/
namespace Go.Proofs.YtelckldddflmmaaGreatDoor
open Go.RowKit Putlog

theorem cells_src {w : World} {ad : Addr} {l : List Nat} {o : Obj} (h : CellsAt w (some ad) (ofN l)) : ∀ j u, (i64l l)[j]? = some u → (w.alloc o).cell? (ad.add j) = some u := by
  intro j u hj
  have hjl : j < l.length := by have := (List.getElem?_eq_some_iff.1 hj).1; simpa [i64l] using this
  rcases h with h | ⟨g, p, h1, h2⟩
  · have h2 : (ofN l).length = 0 := by rw [h]; rfl
    rw [ofN_len] at h2; omega
  · obtain rfl := Option.some.inj h1
    rw [Addr.add_lit]
    rw [i64l_get hjl] at hj
    obtain rfl := Option.some.inj hj
    have := h2 j (by rw [ofN_len]; exact hjl)
    rw [ofN_get] at this
    exact cellA o this
theorem i64l_one (l : List Nat) : ∀ u ∈ i64l l, u.oneCell' = true := by
  intro u hu
  obtain ⟨x, _, rfl⟩ := List.mem_map.1 hu
  rfl
theorem i64l_len (l : List Nat) : (i64l l).length = l.length := by simp [i64l]
set_option maxRecDepth 100000 in
set_option maxHeartbeats 2000000 in
theorem clone_any (l : List Nat) (hl : l.length ≤ 100000) (a : Option Addr) (c : Nat) (w : World) (hv : CellsAt w a (ofN l)) :
    Calls Tryz.prog 118 #[.slice a l.length c] w fun e w' => (∃ v, e = .returned v ∧ w'.ownsRow w.heap.size 3 1 v l.length (i64l l)) ∧ Below w.heap.size w w' := by
  have HV := Lib.hid hv
  have qn : ∀ (w : World) (a : Option Addr) (n c n' c' : Nat), (binOp .eql 80 (.slice a n c) (.slice none n' c')).run Tryz.prog w = .ok (.bool a.isNone) w := fun w a n c n' c' => Lib.run_eql_slice_nil w _ _ a n c n' c' Tryz.underlying80
  clear hv
  cases a with
  | none =>
    have h0 : l = [] := by
      rcases HV.out with h | ⟨g, o, h, _⟩
      · have h2 : (ofN l).length = 0 := by rw [h]; rfl
        rw [ofN_len] at h2
        exact List.length_eq_zero_iff.1 h2
      · cases h
    subst h0
    go_enter Tryz.func118, Tryz.ntmps118
    go_wp2_with fail
    go_ret
    exact ⟨⟨_, rfl, World.ownsRow_nil _ _ _ _⟩, Below.refl _ _⟩
  | some ad =>
    obtain ⟨i0, hi0, hz0, hz1, hz2⟩ := info_parts info_int
    have HI0 := Lib.hid hi0
    have HZ0 := Lib.hid hz0
    have HZ1 := Lib.hid hz1
    have HZ2 := Lib.hid hz2
    clear hi0 hz0 hz1 hz2
    have HK : Hid (l.length ≤ 100000) := hl
    go_enter Tryz.func118, Tryz.ntmps118
    go_wp2_with (at_builtin; refine wpList_append_own _ rfl _ _ 80 rfl w.heap.size 3 i0 (.int .i64 0) 1 8 Tryz.underlying80 HI0.out HZ0.out HZ1.out HZ2.out rfl (by decide) _ _ _ rfl (World.ownsRow_made w #[] 0 (Nat.le_refl _) (Nat.zero_le _) (by simp)) ad l.length c (i64l l) rfl (by rw [i64l_len, Nat.mul_one]) (cells_src HV.out) (i64l_one l) (by have := HK.out; unfold maxLen; omega) (by have := HK.out; omega) (by simp) ?_; intro v' w1 hown hgrow _; have HO := Lib.hid hown; have HG := Lib.hid hgrow; clear hown hgrow)
    go_ret
    refine ⟨⟨_, rfl, by simpa using HO.out⟩, ((Below.refl _ w).alloc (Nat.le_refl _) _).grown HG.out (by simp) (by intro k hk; cases hk; exact Nat.le_refl _)⟩
/-- The start of a loop over the columns: the copy of a magnitude. -/
theorem row_of_clone {w w1 : World} {v : Value} {l : List Nat} (hown : w1.ownsRow w.heap.size 3 1 v l.length (i64l l)) :
    ∃ a c, v = .slice a l.length c ∧ Room l.length c ∧ ((l = [] ∧ CellsAt w1 a (ofN l)) ∨ ∃ g, w.heap.size ≤ g ∧ a = some ⟨g, 0, none⟩ ∧ RowAt w1 g (ofN l)) := by
  have h' : w1.ownsRow w.heap.size 3 1 v (ofN l).length (vals (ofN l)) := by rw [ofN_len, vals_ofN]; exact hown
  rcases owns_row h' with ⟨h1, a, c, h2, h3⟩ | ⟨_, g, c, h1, h2, h3, h4⟩
  · have h5 : (ofN l).length = 0 := by rw [h1]; rfl
    rw [ofN_len] at h5
    have h6 := List.length_eq_zero_iff.1 h5
    subst h6
    exact ⟨a, c, h2, h3, .inl ⟨rfl, .inl rfl⟩⟩
  · rw [ofN_len] at h1 h2
    exact ⟨_, c, h1, h2, .inr ⟨g, h3, rfl, h4⟩⟩
/-- Columns under way: a row, or none. -/
def ColsAt (w : World) (base : Nat) (a : Option Addr) (C : List Int) : Prop := (C = [] ∨ ∃ g, base ≤ g ∧ a = some ⟨g, 0, none⟩ ∧ RowAt w g C)
theorem ColsAt.cells {w : World} {base : Nat} {a : Option Addr} {C : List Int} (h : ColsAt w base a C) : CellsAt w a C := by
  rcases h with h | ⟨g, _, rfl, h2⟩
  · exact .inl h
  · exact h2.cells
theorem ColsAt.at {w : World} {base : Nat} {a : Option Addr} {C : List Int} (h : ColsAt w base a C) {k : Nat} (hk : k < C.length) : ∃ g, base ≤ g ∧ a = some ⟨g, 0, none⟩ ∧ RowAt w g C := by
  rcases h with h | h
  · rw [h] at hk; simp at hk
  · exact h
theorem cols_clone {w w1 : World} {v : Value} {l : List Nat} (hown : w1.ownsRow w.heap.size 3 1 v l.length (i64l l)) : ∃ a c, v = .slice a l.length c ∧ Room l.length c ∧ ColsAt w1 w.heap.size a (ofN l) := by
  obtain ⟨a, c, h1, h2, h3⟩ := row_of_clone hown
  refine ⟨a, c, h1, h2, ?_⟩
  rcases h3 with ⟨h3, _⟩ | h3
  · exact .inl (by rw [h3]; rfl)
  · exact .inr h3
theorem set_len (C : List Int) (i : Nat) (x : Int) : (C.set i x).length = C.length := List.length_set
theorem pow_up {m n : Nat} (h : m ≤ n) : (10000 : Int) ^ m ≤ 10000 ^ n := by
  rw [← pow_cast, ← pow_cast]
  have := Nat.pow_le_pow_right (show 0 < 10000 by decide) h
  omega
/-- What a loop over the columns adds: the columns after k steps. -/
def Added (M s : Int) (A B : List Nat) (k : Nat) (C : List Int) : Prop := C.length = A.length ∧ colV C = (leV 10000 A : Nat) + s * (leV 10000 (B.take k) : Nat) ∧ Bnd M C ∧ ∀ j, k ≤ j → C.getD j 0 = (A.getD j 0 : Nat)
theorem Added.start {M s : Int} {A : List Nat} (hM : 9999 ≤ M) (hA : DigB 10000 A) (B : List Nat) : Added M s A B 0 (ofN A) := by
  refine ⟨ofN_len A, ?_, Bnd.mono (bnd_ofN hA) hM, fun j _ => ofN_get A j⟩
  rw [show ofN A = A.map (fun x : Nat => (x : Int)) from rfl, colV_nat]; simp [leV]
theorem Added.step {M s : Int} {A B : List Nat} {k : Nat} {C : List Int} (h : Added M s A B k C) (hk : k < B.length) (hl : B.length ≤ A.length) (hx : -M ≤ (A.getD k 0 : Nat) + s * (B.getD k 0 : Nat) ∧ (A.getD k 0 : Nat) + s * (B.getD k 0 : Nat) ≤ M) : Added M s A B (k + 1) (C.set k ((A.getD k 0 : Nat) + s * (B.getD k 0 : Nat))) := by
  obtain ⟨h1, h2, h3, h4⟩ := h
  have h5 := h4 k (Nat.le_refl _)
  refine ⟨by rw [List.length_set]; exact h1, ?_, bnd_set h3 k hx.1 hx.2, fun j hj => ?_⟩
  · rw [colV_set C k _ (by omega), h2]
    have h8 : B.take (k + 1) = B.take k ++ [B.getD k 0] := by rw [List.take_succ_eq_append_getElem hk]; simp [List.getD_eq_getElem?_getD, hk]
    rw [h8, leV_snoc]
    have h9 : (B.take k).length = k := by simp; omega
    rw [h9, Int.natCast_add, Int.natCast_mul, pow_cast, Int.mul_add]
    have h10 : ((A.getD k 0 : Nat) : Int) + s * (B.getD k 0 : Nat) - C.getD k 0 = s * (B.getD k 0 : Nat) := by omega
    rw [h10, ← Int.mul_assoc, ← Int.mul_assoc, Int.mul_comm (10000 ^ k) s]; omega
  · rw [getD_set C k j _ (by omega), if_neg (by omega)]
    exact h4 j (by omega)
end Go.Proofs.YtelckldddflmmaaGreatDoor
/- IntMinus: The contracts of differences, sums and multiples of magnitudes. -/
namespace Go.Proofs.YtelckldddflmmaaGreatDoor
open Go.RowKit Putlog

theorem minus_end {A B : List Nat} {C : List Int} (hA : DigB 10000 A) (h : Added 20000 (-1) A B B.length C) (hle : leV 10000 B ≤ leV 10000 A) : 0 ≤ colV C ∧ colV C < 10000 ^ (C.length + 1) ∧ (colV C).toNat = leV 10000 A - leV 10000 B := by
  obtain ⟨h1, h2, _, _⟩ := h
  rw [List.take_length] at h2
  have h3 := leV_lt hA
  have h4 := pow_up (show A.length ≤ C.length + 1 by omega)
  have h5 := pow_cast A.length
  omega
theorem plus_end {A B : List Nat} {C : List Int} (hA : DigB 10000 A) (hB : DigB 10000 B) (hl : B.length ≤ A.length) (h : Added 20000 1 A B B.length C) : 0 ≤ colV C ∧ colV C < 10000 ^ (C.length + 1) ∧ (colV C).toNat = leV 10000 A + leV 10000 B := by
  obtain ⟨h1, h2, _, _⟩ := h
  rw [List.take_length] at h2
  have h3 := leV_lt hA
  have h6 := leV_lt hB
  have h7 : 10000 ^ B.length ≤ 10000 ^ A.length := Nat.pow_le_pow_right (by decide) hl
  have h5 := pow_cast A.length
  rw [h1, Int.pow_succ]
  omega
theorem scaled_end {A : List Nat} {C : List Int} {f : Nat} (hA : DigB 10000 A) (hf : f ≤ 10000) (h : Added 100000000 ((f : Int) - 1) A A A.length C) : 0 ≤ colV C ∧ colV C < 10000 ^ (C.length + 1) ∧ (colV C).toNat = leV 10000 A * f := by
  obtain ⟨h1, h2, _, _⟩ := h
  rw [List.take_length, Int.sub_mul, Int.one_mul] at h2
  have h3 := leV_lt hA
  have h5 := pow_cast A.length
  have h6 : leV 10000 A * f ≤ leV 10000 A * 10000 := Nat.mul_le_mul_left _ hf
  have h7 : (f : Int) * (leV 10000 A : Nat) = ((leV 10000 A * f : Nat) : Int) := by rw [Int.natCast_mul, Int.mul_comm]
  rw [h1, Int.pow_succ]
  omega
set_option maxRecDepth 100000 in
set_option maxHeartbeats 2000000 in
theorem minus_any (A B : List Nat) (hA : DigB 10000 A) (hB : DigB 10000 B) (hlA : A.length ≤ 30000) (hlen : B.length ≤ A.length) (hle : leV 10000 B ≤ leV 10000 A) (a b : Option Addr) (ca cb : Nat) (w : World)
    (_hra : Room A.length ca) (hrb : Room B.length cb) (hva : CellsAt w a (ofN A)) (hvb : CellsAt w b (ofN B)) :
    Calls Tryz.prog 99 #[.slice a A.length ca, .slice b B.length cb] w fun e w' => (∃ v, e = .returned v ∧ MagNew w' w.heap.size v (digsL 10000 (leV 10000 A - leV 10000 B))) ∧ Below w.heap.size w w' := by
  have HDA := Lib.hid hA
  have HDB := Lib.hid hB
  have HLE := Lib.hid hle
  have HVA := Lib.hid hva
  have HVB := Lib.hid hvb
  obtain ⟨m, hm⟩ : ∃ m, m = B.length := ⟨_, rfl⟩
  have HL : Hid (m ≤ A.length) := by show _ ≤ _; omega
  have hrb1 := hrb.1
  rw [← hm] at hrb1 ⊢
  have HM := Lib.hid hm
  have hmb : (m : Int) ≤ 30000 := by omega
  have HLA : Hid (A.length ≤ 30000) := hlA
  clear hA hB hle hva hvb hm hlen hrb
  go_enter Tryz.func99, Tryz.ntmps99
  go_wp2_with fail
  refine (clone_any A (by omega) a ca w HVA.out).mono ?_
  rintro e w1 ⟨⟨v, rfl, hown⟩, hB1⟩
  obtain ⟨a1, c1, rfl, hr1, hC1⟩ := cols_clone hown
  have hr1' := hr1.1
  have HR1 := Lib.hid hr1
  have HC1 := Lib.hid hC1
  have HB1 := Lib.hid hB1
  clear hown hr1 hC1 hB1
  go_wp2_with fail
  go_loopw [12] (fun i wr => ∃ (k : Nat) (C : List Int), k ≤ m ∧ i = .int .i64 k ∧ Added 20000 (-1) A B k C ∧ ColsAt wr w.heap.size a1 C ∧ Below w.heap.size w wr) (fun i _ => m - (intOf i).toNat)
  case atStart => exact ⟨0, _, by omega, rfl, Added.start (by decide) HDA.out B, HC1.out, HB1.out⟩
  case round =>
    obtain ⟨k, C, hk, rfl, hadd, hcols, hB⟩ := hrel
    have HAD := Lib.hid hadd
    have HCO := Lib.hid hcols
    have HB := Lib.hid hB
    clear hadd hcols hB
    by_cases hlt : k < m
    · have hlt' : (k : Int) < m := by omega
      have hkA : (k : Int) < A.length := by have := HL.out; omega
      have hCl := HAD.out.1
      obtain ⟨g, hg, rfl, hrow⟩ := HCO.out.at (k := k) (by omega)
      obtain ⟨hcx, hfx⟩ := hrow k (by omega)
      have hnil : ofN B ≠ [] := fun e => by
        have h1 : (ofN B).length = 0 := by rw [e]; rfl
        rw [ofN_len] at h1; have := HM.out; omega
      obtain ⟨gb, ob, rfl, hcell⟩ := HVB.out.resolve_left hnil
      have hby := hcell k (by rw [ofN_len]; have := HM.out; omega)
      rw [ofN_get] at hby
      have hbx := keptBelow HB.out hby
      have hyb := digB_get HDB.out (j := k) (by have := HM.out; omega)
      have hxa := digB_get HDA.out (j := k) (by omega)
      have hxe := HAD.out.2.2.2 k (Nat.le_refl _)
      have e1 : ((A.getD k 0 : Nat) : Int) + -1 * ((B.getD k 0 : Nat) : Int) = (A.getD k 0 : Nat) - (B.getD k 0 : Nat) := by omega
      have hst := HAD.out.step (by have := HM.out; omega) (by have := HL.out; have := HM.out; omega) (by rw [e1]; omega)
      have hrow2 := hrow.set k (by omega) (((A.getD k 0 : Nat) : Int) + -1 * (B.getD k 0 : Nat))
      have hbel := below_set HB.out hg (i := k) (.int .i64 (((A.getD k 0 : Nat) : Int) + -1 * (B.getD k 0 : Nat)))
      rw [e1] at hst hrow2 hbel
      rw [hxe] at hcx
      have hxa' : ((A.getD k 0 : Nat) : Int) < 10000 := by omega
      have HST := Lib.hid hst
      have HRW := Lib.hid hrow2
      have HBE := Lib.hid hbel
      have hyb' : ((B.getD k 0 : Nat) : Int) < 10000 := by omega
      clear hst hrow hrow2 hbel hcell hnil e1 hby hyb hCl hxa hxe
      generalize A.getD k 0 = x at *
      generalize B.getD k 0 = y at *
      go_wp2_with fail
      go_roundw
      case rel => exact ⟨k + 1, _, by omega, by go_num, HST.out, .inr ⟨g, hg, rfl, HRW.out⟩, HBE.out⟩
      case measure => simp [intOf]; omega
    · obtain rfl : k = m := by omega
      have hAD := HAD.out
      rw [HM.out] at hAD
      obtain ⟨e1, e2, e3⟩ := minus_end HDA.out hAD HLE.out
      have hcall := carried_any C a1 c1 wr (by have := HAD.out.1; have := HLA.out; omega) (Bnd.mono HAD.out.2.2.1 (by decide)) (by rw [HAD.out.1]; exact HR1.out) HCO.out.cells e1 e2
      rw [HAD.out.1, e3] at hcall
      have HCA := Lib.hid hcall
      clear hAD e1 e2 e3 hcall
      go_wp2_with fail
      refine HCA.out.mono ?_
      rintro e w2 ⟨⟨v2, rfl, hnew⟩, hB2⟩
      have HN := Lib.hid (hnew.mono HB.out.size)
      have HB2 := Lib.hid (belowVia hB2 HB.out)
      obtain ⟨g2, c2, rfl, _⟩ := hnew
      clear hB2
      go_wp2_with fail
      go_ret
      exact ⟨⟨_, rfl, HN.out⟩, HB2.out⟩
set_option maxRecDepth 100000 in
set_option maxHeartbeats 2000000 in
theorem plus_ge (A B : List Nat) (hA : DigB 10000 A) (hB : DigB 10000 B) (hlA : A.length ≤ 30000) (hlen : B.length ≤ A.length) (a b : Option Addr) (ca cb : Nat) (w : World)
    (_hra : Room A.length ca) (hrb : Room B.length cb) (hva : CellsAt w a (ofN A)) (hvb : CellsAt w b (ofN B)) :
    Calls Tryz.prog 98 #[.slice a A.length ca, .slice b B.length cb] w fun e w' => (∃ v, e = .returned v ∧ MagNew w' w.heap.size v (digsL 10000 (leV 10000 A + leV 10000 B))) ∧ Below w.heap.size w w' := by
  have HDA := Lib.hid hA
  have HDB := Lib.hid hB
  have HVA := Lib.hid hva
  have HVB := Lib.hid hvb
  obtain ⟨m, hm⟩ : ∃ m, m = B.length := ⟨_, rfl⟩
  have HL : Hid (m ≤ A.length) := by show _ ≤ _; omega
  have hrb1 := hrb.1
  rw [← hm] at hrb1 ⊢
  have HM := Lib.hid hm
  have hmb : (m : Int) ≤ 30000 := by omega
  have HLA : Hid (A.length ≤ 30000) := hlA
  clear hA hB hva hvb hm hlen hrb
  go_enter Tryz.func98, Tryz.ntmps98
  have hmA : (m : Int) ≤ A.length := by have := HL.out; omega
  go_wp2_with fail
  refine (clone_any A (by omega) a ca w HVA.out).mono ?_
  rintro e w1 ⟨⟨v, rfl, hown⟩, hB1⟩
  obtain ⟨a1, c1, rfl, hr1, hC1⟩ := cols_clone hown
  have hr1' := hr1.1
  have HR1 := Lib.hid hr1
  have HC1 := Lib.hid hC1
  have HB1 := Lib.hid hB1
  clear hown hr1 hC1 hB1
  go_wp2_with fail
  go_loopw [19] (fun i wr => ∃ (k : Nat) (C : List Int), k ≤ m ∧ i = .int .i64 k ∧ Added 20000 1 A B k C ∧ ColsAt wr w.heap.size a1 C ∧ Below w.heap.size w wr) (fun i _ => m - (intOf i).toNat)
  case atStart => exact ⟨0, _, by omega, rfl, Added.start (by decide) HDA.out B, HC1.out, HB1.out⟩
  case round =>
    obtain ⟨k, C, hk, rfl, hadd, hcols, hB⟩ := hrel
    have HAD := Lib.hid hadd
    have HCO := Lib.hid hcols
    have HB := Lib.hid hB
    clear hadd hcols hB
    by_cases hlt : k < m
    · have hlt' : (k : Int) < m := by omega
      have hkA : (k : Int) < A.length := by have := HL.out; omega
      have hCl := HAD.out.1
      obtain ⟨g, hg, rfl, hrow⟩ := HCO.out.at (k := k) (by omega)
      obtain ⟨hcx, hfx⟩ := hrow k (by omega)
      have hnil : ofN B ≠ [] := fun e => by
        have h1 : (ofN B).length = 0 := by rw [e]; rfl
        rw [ofN_len] at h1; have := HM.out; omega
      obtain ⟨gb, ob, rfl, hcell⟩ := HVB.out.resolve_left hnil
      have hby := hcell k (by rw [ofN_len]; have := HM.out; omega)
      rw [ofN_get] at hby
      have hbx := keptBelow HB.out hby
      have hyb := digB_get HDB.out (j := k) (by have := HM.out; omega)
      have hxa := digB_get HDA.out (j := k) (by omega)
      have hxe := HAD.out.2.2.2 k (Nat.le_refl _)
      have e1 : ((A.getD k 0 : Nat) : Int) + 1 * ((B.getD k 0 : Nat) : Int) = (A.getD k 0 : Nat) + (B.getD k 0 : Nat) := by omega
      have hst := HAD.out.step (by have := HM.out; omega) (by have := HL.out; have := HM.out; omega) (by rw [e1]; omega)
      have hrow2 := hrow.set k (by omega) (((A.getD k 0 : Nat) : Int) + 1 * (B.getD k 0 : Nat))
      have hbel := below_set HB.out hg (i := k) (.int .i64 (((A.getD k 0 : Nat) : Int) + 1 * (B.getD k 0 : Nat)))
      rw [e1] at hst hrow2 hbel
      rw [hxe] at hcx
      have hxa' : ((A.getD k 0 : Nat) : Int) < 10000 := by omega
      have HST := Lib.hid hst
      have HRW := Lib.hid hrow2
      have HBE := Lib.hid hbel
      have hyb' : ((B.getD k 0 : Nat) : Int) < 10000 := by omega
      clear hst hrow hrow2 hbel hcell hnil e1 hby hyb hCl hxa hxe
      generalize A.getD k 0 = x at *
      generalize B.getD k 0 = y at *
      go_wp2_with fail
      go_roundw
      case rel => exact ⟨k + 1, _, by omega, by go_num, HST.out, .inr ⟨g, hg, rfl, HRW.out⟩, HBE.out⟩
      case measure => simp [intOf]; omega
    · obtain rfl : k = m := by omega
      have hAD := HAD.out
      rw [HM.out] at hAD
      obtain ⟨e1, e2, e3⟩ := plus_end HDA.out HDB.out (by have := HL.out; have := HM.out; omega) hAD
      have hcall := carried_any C a1 c1 wr (by have := HAD.out.1; have := HLA.out; omega) (Bnd.mono HAD.out.2.2.1 (by decide)) (by rw [HAD.out.1]; exact HR1.out) HCO.out.cells e1 e2
      rw [HAD.out.1, e3] at hcall
      have HCA := Lib.hid hcall
      clear hAD e1 e2 e3 hcall
      go_wp2_with fail
      refine HCA.out.mono ?_
      rintro e w2 ⟨⟨v2, rfl, hnew⟩, hB2⟩
      have HN := Lib.hid (hnew.mono HB.out.size)
      have HB2 := Lib.hid (belowVia hB2 HB.out)
      obtain ⟨g2, c2, rfl, _⟩ := hnew
      clear hB2
      go_wp2_with fail
      go_ret
      exact ⟨⟨_, rfl, HN.out⟩, HB2.out⟩
set_option maxRecDepth 100000 in
set_option maxHeartbeats 2000000 in
theorem plus_lt (A B : List Nat) (hA : DigB 10000 A) (hB : DigB 10000 B) (hlA : A.length ≤ 30000) (hlen : B.length < A.length) (a b : Option Addr) (ca cb : Nat) (w : World)
    (_hra : Room A.length ca) (hrb : Room B.length cb) (hva : CellsAt w a (ofN A)) (hvb : CellsAt w b (ofN B)) :
    Calls Tryz.prog 98 #[.slice b B.length cb, .slice a A.length ca] w fun e w' => (∃ v, e = .returned v ∧ MagNew w' w.heap.size v (digsL 10000 (leV 10000 A + leV 10000 B))) ∧ Below w.heap.size w w' := by
  have HDA := Lib.hid hA
  have HDB := Lib.hid hB
  have HVA := Lib.hid hva
  have HVB := Lib.hid hvb
  obtain ⟨m, hm⟩ : ∃ m, m = B.length := ⟨_, rfl⟩
  have HL : Hid (m ≤ A.length) := by show _ ≤ _; omega
  have hmA : (m : Int) < A.length := by omega
  have hrb1 := hrb.1
  rw [← hm] at hrb1 ⊢
  have HM := Lib.hid hm
  have hmb : (m : Int) ≤ 30000 := by omega
  have HLA : Hid (A.length ≤ 30000) := hlA
  clear hA hB hva hvb hm hlen hrb
  go_enter Tryz.func98, Tryz.ntmps98
  go_wp2_with fail
  refine (clone_any A (by omega) a ca w HVA.out).mono ?_
  rintro e w1 ⟨⟨v, rfl, hown⟩, hB1⟩
  obtain ⟨a1, c1, rfl, hr1, hC1⟩ := cols_clone hown
  have hr1' := hr1.1
  have HR1 := Lib.hid hr1
  have HC1 := Lib.hid hC1
  have HB1 := Lib.hid hB1
  clear hown hr1 hC1 hB1
  go_wp2_with fail
  go_loopw [19] (fun i wr => ∃ (k : Nat) (C : List Int), k ≤ m ∧ i = .int .i64 k ∧ Added 20000 1 A B k C ∧ ColsAt wr w.heap.size a1 C ∧ Below w.heap.size w wr) (fun i _ => m - (intOf i).toNat)
  case atStart => exact ⟨0, _, by omega, rfl, Added.start (by decide) HDA.out B, HC1.out, HB1.out⟩
  case round =>
    obtain ⟨k, C, hk, rfl, hadd, hcols, hB⟩ := hrel
    have HAD := Lib.hid hadd
    have HCO := Lib.hid hcols
    have HB := Lib.hid hB
    clear hadd hcols hB
    by_cases hlt : k < m
    · have hlt' : (k : Int) < m := by omega
      have hkA : (k : Int) < A.length := by have := HL.out; omega
      have hCl := HAD.out.1
      obtain ⟨g, hg, rfl, hrow⟩ := HCO.out.at (k := k) (by omega)
      obtain ⟨hcx, hfx⟩ := hrow k (by omega)
      have hnil : ofN B ≠ [] := fun e => by
        have h1 : (ofN B).length = 0 := by rw [e]; rfl
        rw [ofN_len] at h1; have := HM.out; omega
      obtain ⟨gb, ob, rfl, hcell⟩ := HVB.out.resolve_left hnil
      have hby := hcell k (by rw [ofN_len]; have := HM.out; omega)
      rw [ofN_get] at hby
      have hbx := keptBelow HB.out hby
      have hyb := digB_get HDB.out (j := k) (by have := HM.out; omega)
      have hxa := digB_get HDA.out (j := k) (by omega)
      have hxe := HAD.out.2.2.2 k (Nat.le_refl _)
      have e1 : ((A.getD k 0 : Nat) : Int) + 1 * ((B.getD k 0 : Nat) : Int) = (A.getD k 0 : Nat) + (B.getD k 0 : Nat) := by omega
      have hst := HAD.out.step (by have := HM.out; omega) (by have := HL.out; have := HM.out; omega) (by rw [e1]; omega)
      have hrow2 := hrow.set k (by omega) (((A.getD k 0 : Nat) : Int) + 1 * (B.getD k 0 : Nat))
      have hbel := below_set HB.out hg (i := k) (.int .i64 (((A.getD k 0 : Nat) : Int) + 1 * (B.getD k 0 : Nat)))
      rw [e1] at hst hrow2 hbel
      rw [hxe] at hcx
      have hxa' : ((A.getD k 0 : Nat) : Int) < 10000 := by omega
      have HST := Lib.hid hst
      have HRW := Lib.hid hrow2
      have HBE := Lib.hid hbel
      have hyb' : ((B.getD k 0 : Nat) : Int) < 10000 := by omega
      clear hst hrow hrow2 hbel hcell hnil e1 hby hyb hCl hxa hxe
      generalize A.getD k 0 = x at *
      generalize B.getD k 0 = y at *
      go_wp2_with fail
      go_roundw
      case rel => exact ⟨k + 1, _, by omega, by go_num, HST.out, .inr ⟨g, hg, rfl, HRW.out⟩, HBE.out⟩
      case measure => simp [intOf]; omega
    · obtain rfl : k = m := by omega
      have hAD := HAD.out
      rw [HM.out] at hAD
      obtain ⟨e1, e2, e3⟩ := plus_end HDA.out HDB.out (by have := HL.out; have := HM.out; omega) hAD
      have hcall := carried_any C a1 c1 wr (by have := HAD.out.1; have := HLA.out; omega) (Bnd.mono HAD.out.2.2.1 (by decide)) (by rw [HAD.out.1]; exact HR1.out) HCO.out.cells e1 e2
      rw [HAD.out.1, e3] at hcall
      have HCA := Lib.hid hcall
      clear hAD e1 e2 e3 hcall
      go_wp2_with fail
      refine HCA.out.mono ?_
      rintro e w2 ⟨⟨v2, rfl, hnew⟩, hB2⟩
      have HN := Lib.hid (hnew.mono HB.out.size)
      have HB2 := Lib.hid (belowVia hB2 HB.out)
      obtain ⟨g2, c2, rfl, _⟩ := hnew
      clear hB2
      go_wp2_with fail
      go_ret
      exact ⟨⟨_, rfl, HN.out⟩, HB2.out⟩
set_option maxRecDepth 100000 in
set_option maxHeartbeats 2000000 in
theorem scaled_any (A : List Nat) (f : Nat) (hA : DigB 10000 A) (hf : f ≤ 10000) (hlA : A.length ≤ 30000) (a : Option Addr) (ca : Nat) (w : World) (hva : CellsAt w a (ofN A)) :
    Calls Tryz.prog 121 #[.slice a A.length ca, .int .i64 f] w fun e w' => (∃ v, e = .returned v ∧ MagNew w' w.heap.size v (digsL 10000 (leV 10000 A * f))) ∧ Below w.heap.size w w' := by
  have HDA := Lib.hid hA
  have HVA := Lib.hid hva
  have hfb : (f : Int) ≤ 10000 := by omega
  have HF : Hid (f ≤ 10000) := hf
  obtain ⟨m, hm⟩ : ∃ m, m = A.length := ⟨_, rfl⟩
  have HM := Lib.hid hm
  have hmb : (m : Int) ≤ 30000 := by omega
  have HLA : Hid (A.length ≤ 30000) := hlA
  have hcl := clone_any A (by omega) a ca w HVA.out
  rw [← hm] at hcl ⊢
  have HCL := Lib.hid hcl
  clear hA hva hm hf hcl hlA
  go_enter Tryz.func121, Tryz.ntmps121
  go_wp2_with fail
  refine HCL.out.mono ?_
  rintro e w1 ⟨⟨v, rfl, hown⟩, hB1⟩
  rw [HM.out] at hown
  obtain ⟨a1, c1, rfl, hr1, hC1⟩ := cols_clone hown
  have hr1' := hr1.1
  have HR1 := Lib.hid hr1
  have HC1 := Lib.hid hC1
  have HB1 := Lib.hid hB1
  rw [← HM.out] at hr1' ⊢
  clear hown hr1 hC1 hB1 HCL
  go_wp2_with fail
  go_loopw [11] (fun i wr => ∃ (k : Nat) (C : List Int), k ≤ m ∧ i = .int .i64 k ∧ Added 100000000 ((f : Int) - 1) A A k C ∧ ColsAt wr w.heap.size a1 C ∧ Below w.heap.size w wr) (fun i _ => m - (intOf i).toNat)
  case atStart => exact ⟨0, _, by omega, rfl, Added.start (by decide) HDA.out A, HC1.out, HB1.out⟩
  case round =>
    obtain ⟨k, C, hk, rfl, hadd, hcols, hB⟩ := hrel
    have HAD := Lib.hid hadd
    have HCO := Lib.hid hcols
    have HB := Lib.hid hB
    clear hadd hcols hB
    by_cases hlt : k < m
    · have hlt' : (k : Int) < m := by omega
      have hCl := HAD.out.1
      have hmA := HM.out
      obtain ⟨g, hg, rfl, hrow⟩ := HCO.out.at (k := k) (by omega)
      obtain ⟨hcx, hfx⟩ := hrow k (by omega)
      have hxa := digB_get HDA.out (j := k) (by omega)
      have hxe := HAD.out.2.2.2 k (Nat.le_refl _)
      have e1 : ((A.getD k 0 : Nat) : Int) + ((f : Int) - 1) * ((A.getD k 0 : Nat) : Int) = ((A.getD k 0 * f : Nat) : Int) := by rw [Int.natCast_mul, Int.sub_mul, Int.one_mul, Int.mul_comm (f : Int)]; omega
      have hmul : A.getD k 0 * f ≤ 9999 * 10000 := Nat.mul_le_mul (by omega) HF.out
      have hst := HAD.out.step (by omega) (Nat.le_refl _) (by rw [e1]; omega)
      have hrow2 := hrow.set k (by omega) (((A.getD k 0 : Nat) : Int) + ((f : Int) - 1) * ((A.getD k 0 : Nat) : Int))
      have hbel := below_set HB.out hg (i := k) (.int .i64 (((A.getD k 0 : Nat) : Int) + ((f : Int) - 1) * ((A.getD k 0 : Nat) : Int)))
      rw [e1] at hst hrow2 hbel
      rw [hxe] at hcx
      have hxa' : ((A.getD k 0 : Nat) : Int) < 10000 := by omega
      have HST := Lib.hid hst
      have HRW := Lib.hid hrow2
      have HBE := Lib.hid hbel
      obtain ⟨z, hz⟩ : ∃ z, z = A.getD k 0 * f := ⟨_, rfl⟩
      have hzz : ((A.getD k 0 : Nat) : Int) * (f : Int) = (z : Nat) := by rw [hz, Int.natCast_mul]
      have hzb : (z : Int) ≤ 100000000 := by omega
      rw [← hz] at HST HRW HBE
      clear hst hrow hrow2 hbel e1 hCl hxa hxe hmul hz hmA
      generalize A.getD k 0 = x at *
      go_wp2_with fail
      go_roundw
      case rel => exact ⟨k + 1, _, by omega, by go_num, HST.out, .inr ⟨g, hg, rfl, HRW.out⟩, HBE.out⟩
      case measure => simp [intOf]; omega
    · obtain rfl : k = m := by omega
      have hAD := HAD.out
      rw [HM.out] at hAD
      obtain ⟨e1, e2, e3⟩ := scaled_end HDA.out HF.out hAD
      have hcall := carried_any C a1 c1 wr (by have := HAD.out.1; have := HLA.out; omega) (Bnd.mono HAD.out.2.2.1 (by decide)) (by rw [HAD.out.1]; exact HR1.out) HCO.out.cells e1 e2
      rw [HAD.out.1, e3, ← HM.out] at hcall
      have HCA := Lib.hid hcall
      clear hAD e1 e2 e3 hcall
      go_wp2_with fail
      refine HCA.out.mono ?_
      rintro e w2 ⟨⟨v2, rfl, hnew⟩, hB2⟩
      have HN := Lib.hid (hnew.mono HB.out.size)
      have HB2 := Lib.hid (belowVia hB2 HB.out)
      obtain ⟨g2, c2, rfl, _⟩ := hnew
      clear hB2
      go_wp2_with fail
      go_ret
      exact ⟨⟨_, rfl, HN.out⟩, HB2.out⟩
theorem plus_any (A B : List Nat) (hA : DigB 10000 A) (hB : DigB 10000 B) (hlA : A.length ≤ 30000) (hlB : B.length ≤ 30000) (a b : Option Addr) (ca cb : Nat) (w : World)
    (hra : Room A.length ca) (hrb : Room B.length cb) (hva : CellsAt w a (ofN A)) (hvb : CellsAt w b (ofN B)) :
    Calls Tryz.prog 98 #[.slice a A.length ca, .slice b B.length cb] w fun e w' => (∃ v, e = .returned v ∧ MagNew w' w.heap.size v (digsL 10000 (leV 10000 A + leV 10000 B))) ∧ Below w.heap.size w w' := by
  rcases Nat.lt_or_ge A.length B.length with h | h
  · have := plus_lt B A hB hA hlB h b a cb ca w hrb hra hvb hva
    rwa [Nat.add_comm] at this
  · exact plus_ge A B hA hB hlA h a b ca cb w hra hrb hva hvb
end Go.Proofs.YtelckldddflmmaaGreatDoor
/- IntTimes: The contract of the product of magnitudes. -/
namespace Go.Proofs.YtelckldddflmmaaGreatDoor
open Go.RowKit Putlog

theorem take_nat {l : List Nat} {k : Nat} (h : k < l.length) : leV 10000 (l.take (k + 1)) = leV 10000 (l.take k) + 10000 ^ k * l.getD k 0 := by
  have h8 : l.take (k + 1) = l.take k ++ [l.getD k 0] := by rw [List.take_succ_eq_append_getElem h]; simp [List.getD_eq_getElem?_getD, h]
  have h9 : (l.take k).length = k := by simp; omega
  rw [h8, leV_snoc, h9]
/-- The columns of a product under way. -/
def Prods (A B : List Nat) (i j : Nat) (C : List Int) : Prop := C.length = A.length + B.length ∧ colV C = ((leV 10000 (A.take i) * leV 10000 B + 10000 ^ i * A.getD i 0 * leV 10000 (B.take j) : Nat) : Int) ∧ Bnd (((i * B.length + j : Nat) : Int) * 100000000) C
theorem bnd_zeros (n : Nat) (M : Int) (hM : 0 ≤ M) : Bnd M (List.replicate n 0) := fun x hx => by
  obtain ⟨_, rfl⟩ := List.mem_replicate.1 hx
  omega
theorem Prods.start (A B : List Nat) : Prods A B 0 0 (List.replicate (A.length + B.length) 0) := by
  refine ⟨List.length_replicate, ?_, bnd_zeros _ _ (by omega)⟩
  rw [colV_zeros]; simp [leV]
theorem Prods.next {A B : List Nat} {i : Nat} {C : List Int} (h : Prods A B i B.length C) (hi : i < A.length) : Prods A B (i + 1) 0 C := by
  obtain ⟨h1, h2, h3⟩ := h
  refine ⟨h1, ?_, by rw [Nat.add_mul, Nat.one_mul, Nat.add_zero]; exact h3⟩
  rw [h2, take_nat hi, List.take_length]
  simp only [List.take_zero, leV, Nat.mul_zero, Nat.add_zero, Nat.add_mul]
theorem Prods.bound {A B : List Nat} {i j : Nat} {C : List Int} (h : Prods A B i j C) (hA : A.length ≤ 1000) (hB : B.length ≤ 1000) (hi : i ≤ A.length) (hj : j ≤ B.length) : Bnd 101000000000000 C := by
  refine Bnd.mono h.2.2 ?_
  have h1 : i * B.length ≤ 1000 * 1000 := Nat.mul_le_mul (by omega) hB
  omega
theorem Prods.step {A B : List Nat} {i j : Nat} {C : List Int} (h : Prods A B i j C) (hA : DigB 10000 A) (hB : DigB 10000 B) (hi : i < A.length) (hj : j < B.length) : Prods A B i (j + 1) (C.set (i + j) (C.getD (i + j) 0 + (A.getD i 0 * B.getD j 0 : Nat))) := by
  obtain ⟨h1, h2, h3⟩ := h
  have h4 := bnd_get h3 (j := i + j) (by omega)
  have h5 := digB_get hA hi
  have h6 := digB_get hB hj
  have h7 : A.getD i 0 * B.getD j 0 ≤ 9999 * 9999 := Nat.mul_le_mul (by omega) (by omega)
  refine ⟨by rw [List.length_set]; exact h1, ?_, ?_⟩
  · rw [colV_set C _ _ (by omega), h2, take_nat hj]
    have h8 : C.getD (i + j) 0 + ((A.getD i 0 * B.getD j 0 : Nat) : Int) - C.getD (i + j) 0 = ((A.getD i 0 * B.getD j 0 : Nat) : Int) := by omega
    rw [h8, ← pow_cast, ← Int.natCast_mul, ← Int.natCast_add]
    congr 1
    rw [Nat.mul_add, Nat.pow_add]
    have : 10000 ^ i * 10000 ^ j * (A.getD i 0 * B.getD j 0) = 10000 ^ i * A.getD i 0 * (10000 ^ j * B.getD j 0) := by
      simp only [Nat.mul_assoc, Nat.mul_left_comm]
    omega
  · refine bnd_set (Bnd.mono h3 (by omega)) _ ?_ ?_ <;> omega
theorem prods_end {A B : List Nat} {C : List Int} (hA : DigB 10000 A) (hB : DigB 10000 B) (h : Prods A B A.length 0 C) : 0 ≤ colV C ∧ colV C < 10000 ^ (C.length + 1) ∧ (colV C).toNat = leV 10000 A * leV 10000 B := by
  obtain ⟨h1, h2, _⟩ := h
  rw [List.take_length] at h2
  simp only [List.take_zero, leV, Nat.mul_zero, Nat.add_zero] at h2
  have h3 := leV_lt hA
  have h6 := leV_lt hB
  have h5 := pow_cast (A.length + B.length)
  have h7 : leV 10000 A * leV 10000 B < 10000 ^ (A.length + B.length) := by rw [Nat.pow_add]; exact Nat.mul_lt_mul_of_lt_of_le h3 (Nat.le_of_lt h6) (Nat.pow_pos (by decide))
  rw [h1, Int.pow_succ]
  omega
theorem cols_made {w w1 : World} {n : Nat} (hown : w1.ownsRow w.heap.size 3 1 (.slice (some ⟨w.heap.size, 0, none⟩) n n) n (madeCells (Value.int .i64 0).cells (n * 1)).toList) : ColsAt w1 w.heap.size (some ⟨w.heap.size, 0, none⟩) (List.replicate n 0) := by
  rw [show (Value.int .i64 0).cells = #[.int .i64 0] from rfl, toList_madeCells_one, Nat.mul_one] at hown
  have h' : w1.ownsRow w.heap.size 3 1 (.slice (some ⟨w.heap.size, 0, none⟩) n n) (List.replicate n (0 : Int)).length (vals (List.replicate n 0)) := by
    rw [List.length_replicate]
    have : vals (List.replicate n 0) = List.replicate n (.int .i64 0) := by simp [vals]
    rw [this]; exact hown
  rcases owns_row h' with ⟨h1, _⟩ | ⟨_, g, c, h1, h2, h3, h4⟩
  · exact .inl h1
  · rw [List.length_replicate] at h1
    cases h1
    exact .inr ⟨_, h3, rfl, h4⟩
set_option maxRecDepth 100000 in
set_option maxHeartbeats 4000000 in
theorem times_any (A B : List Nat) (hA : DigB 10000 A) (hB : DigB 10000 B) (hlA : A.length ≤ 1000) (hlB : B.length ≤ 1000) (a b : Option Addr) (ca cb : Nat) (w : World)
    (hra : Room A.length ca) (hrb : Room B.length cb) (hva : CellsAt w a (ofN A)) (hvb : CellsAt w b (ofN B)) :
    Calls Tryz.prog 114 #[.slice a A.length ca, .slice b B.length cb] w fun e w' => (∃ v, e = .returned v ∧ MagNew w' w.heap.size v (digsL 10000 (leV 10000 A * leV 10000 B))) ∧ Below w.heap.size w w' := by
  obtain ⟨i0, hi0, hz0, hz1, hz2⟩ := info_parts info_int
  have HI0 := Lib.hid hi0
  have HZ0 := Lib.hid hz0
  have HZ1 := Lib.hid hz1
  have HZ2 := Lib.hid hz2
  have HDA := Lib.hid hA
  have HDB := Lib.hid hB
  have HVA := Lib.hid hva
  have HVB := Lib.hid hvb
  have hra1 := hra.1
  have hrb1 := hrb.1
  obtain ⟨n, hn⟩ : ∃ n, n = A.length := ⟨_, rfl⟩
  obtain ⟨m, hm⟩ : ∃ m, m = B.length := ⟨_, rfl⟩
  rw [← hn] at hra1 ⊢
  rw [← hm] at hrb1 ⊢
  have HN := Lib.hid hn
  have HM := Lib.hid hm
  have hnb : (n : Int) ≤ 1000 := by omega
  have hmb : (m : Int) ≤ 1000 := by omega
  have HLA : Hid (A.length ≤ 1000) := hlA
  have HLB : Hid (B.length ≤ 1000) := hlB
  clear hi0 hz0 hz1 hz2 hA hB hva hvb hn hm hra hrb hlA hlB
  go_enter Tryz.func114, Tryz.ntmps114
  go_wp2_with (at_make; go_must (refine wpList_make_full _ rfl _ _ 40 rfl w.heap.size 3 i0 (.int .i64 0) 1 Tryz.underlying40 HI0.out HZ0.out HZ1.out .i64 .i64 ((n : Int) + m) ((n : Int) + m) (n + m) rfl rfl (by omega) (by omega) (by rw [HZ2.out]; omega) (by unfold maxLen; omega) (Nat.le_refl _) ?_); intro w1 hown hgrow; have HC1 := Lib.hid (cols_made hown); have HB1 := Lib.hid (belowMade hgrow); clear hown hgrow)
  have HP0 : Hid (Prods A B 0 0 (List.replicate (n + m) 0)) := by show Prods _ _ _ _ _; rw [HN.out, HM.out]; exact Prods.start A B
  go_loopw [18] (fun i wr => ∃ (k : Nat) (C : List Int), k ≤ n ∧ i = .int .i64 k ∧ Prods A B k 0 C ∧ ColsAt wr w.heap.size (some ⟨w.heap.size, 0, none⟩) C ∧ Below w.heap.size w wr) (fun i _ => n - (intOf i).toNat)
  case atStart => exact ⟨0, _, by omega, rfl, HP0.out, HC1.out, HB1.out⟩
  case round =>
    obtain ⟨k, C, hk, rfl, hP, hcols, hB⟩ := hrel
    have HP := Lib.hid hP
    have HCO := Lib.hid hcols
    have HB := Lib.hid hB
    clear hP hcols hB
    by_cases hlt : k < n
    · have hlt' : (k : Int) < n := by omega
      have hnil : ofN A ≠ [] := fun e => by
        have h1 : (ofN A).length = 0 := by rw [e]; rfl
        rw [ofN_len] at h1; have := HN.out; omega
      obtain ⟨ga, oa, rfl, hcell⟩ := HVA.out.resolve_left hnil
      have hax := hcell k (by rw [ofN_len]; have := HN.out; omega)
      rw [ofN_get] at hax
      have hay := keptBelow HB.out hax
      have hxa := digB_get HDA.out (j := k) (by have := HN.out; omega)
      have hxb : ((A.getD k 0 : Nat) : Int) < 10000 := by omega
      clear hnil hcell hax hxa
      obtain ⟨x, hx⟩ : ∃ x, x = A.getD k 0 := ⟨_, rfl⟩
      rw [← hx] at hay hxb
      have HX := Lib.hid hx
      clear hx
      go_wp2_with fail
      go_loopw [25] (fun i wr => ∃ (j : Nat) (C : List Int), j ≤ m ∧ i = .int .i64 j ∧ Prods A B k j C ∧ ColsAt wr w.heap.size (some ⟨w.heap.size, 0, none⟩) C ∧ Below w.heap.size w wr) (fun i _ => m - (intOf i).toNat)
      case atStart => exact ⟨0, _, by omega, rfl, HP.out, HCO.out, HB.out⟩
      case round =>
        obtain ⟨j, C2, hj, rfl, hP2, hcols2, hB2⟩ := hrel
        have HP2 := Lib.hid hP2
        have HCO2 := Lib.hid hcols2
        have HB2 := Lib.hid hB2
        clear hP2 hcols2 hB2
        by_cases hjt : j < m
        · have hjt' : (j : Int) < m := by omega
          have hkj : (k : Int) + j < (n : Int) + m := by omega
          have hlen := HP2.out.1
          have hidx : k + j < C2.length := by have := HN.out; have := HM.out; omega
          obtain ⟨g, hg, hge, hrow⟩ := HCO2.out.at hidx
          obtain rfl : w.heap.size = g := by cases hge; rfl
          obtain ⟨hcx, hfx⟩ := hrow (k + j) hidx
          have hnil : ofN B ≠ [] := fun e => by
            have h1 : (ofN B).length = 0 := by rw [e]; rfl
            rw [ofN_len] at h1; have := HM.out; omega
          obtain ⟨gb, ob, rfl, hcell⟩ := HVB.out.resolve_left hnil
          have hbx := hcell j (by rw [ofN_len]; have := HM.out; omega)
          rw [ofN_get] at hbx
          have hby := keptBelow HB2.out hbx
          have hyb := digB_get HDB.out (j := j) (by have := HM.out; omega)
          have hyb' : ((B.getD j 0 : Nat) : Int) < 10000 := by omega
          have hst := HP2.out.step HDA.out HDB.out (by have := HN.out; omega) (by have := HM.out; omega)
          have hcb := bnd_get (HP2.out.bound HLA.out HLB.out (by have := HN.out; omega) (by have := HM.out; omega)) hidx
          rw [← HX.out] at hst
          have hrow2 := hrow.set (k + j) hidx (C2.getD (k + j) 0 + ((x * B.getD j 0 : Nat) : Int))
          have hbel := below_set HB2.out hg (i := k + j) (.int .i64 (C2.getD (k + j) 0 + ((x * B.getD j 0 : Nat) : Int)))
          have hmul : x * B.getD j 0 ≤ 9999 * 9999 := Nat.mul_le_mul (by omega) (by omega)
          have HST := Lib.hid hst
          have HRW := Lib.hid hrow2
          have HBE := Lib.hid hbel
          obtain ⟨z, hz⟩ : ∃ z, z = x * B.getD j 0 := ⟨_, rfl⟩
          have hzz : (x : Int) * ((B.getD j 0 : Nat) : Int) = (z : Nat) := by rw [hz, Int.natCast_mul]
          have hzb : (z : Int) ≤ 100000000 := by omega
          rw [← hz] at HST HRW HBE
          have htn : ((k : Int) + j).toNat = k + j := by omega
          clear hst hrow hrow2 hbel hge hnil hcell hbx hyb hmul hz hlen hidx
          generalize C2.getD (k + j) 0 = c at *
          generalize B.getD j 0 = y at *
          go_wp2_with fail
          go_roundw
          case rel => exact ⟨j + 1, _, by omega, by go_num, HST.out, .inr ⟨_, hg, rfl, HRW.out⟩, HBE.out⟩
          case measure => simp [intOf]; omega
        · obtain rfl : j = m := by omega
          have hP3 := HP2.out
          rw [HM.out] at hP3
          have HP3 := Lib.hid (hP3.next (by have := HN.out; omega))
          clear hP3
          go_wp2_with fail
          go_roundw
          case rel => exact ⟨k + 1, _, by omega, by go_num, HP3.out, HCO2.out, HB2.out⟩
          case measure => simp [intOf]; omega
    · obtain rfl : k = n := by omega
      have hAD := HP.out
      rw [HN.out] at hAD
      obtain ⟨e1, e2, e3⟩ := prods_end HDA.out HDB.out hAD
      have hlC : C.length = k + m := by have := HP.out.1; have := HN.out; have := HM.out; omega
      have hcall := carried_any C (some ⟨w.heap.size, 0, none⟩) (k + m) wr (by omega) (Bnd.mono (HP.out.bound HLA.out HLB.out (by have := HN.out; omega) (by omega)) (by decide)) (by rw [hlC]; exact ⟨Nat.le_refl _, by omega⟩) HCO.out.cells e1 e2
      rw [hlC, e3] at hcall
      have HCA := Lib.hid hcall
      clear hAD e1 e2 e3 hcall hlC
      go_wp2_with fail
      refine HCA.out.mono ?_
      rintro e w2 ⟨⟨v2, rfl, hnew⟩, hB2⟩
      have HNW := Lib.hid (hnew.mono HB.out.size)
      have HB2 := Lib.hid (belowVia hB2 HB.out)
      obtain ⟨g2, c2, rfl, _⟩ := hnew
      clear hB2
      go_wp2_with fail
      go_ret
      exact ⟨⟨_, rfl, HNW.out⟩, HB2.out⟩
end Go.Proofs.YtelckldddflmmaaGreatDoor
/- IntApi: What the laws of layer 3 take of the code: a contract for each exported function, in terms of numbers. -/
namespace Go.Proofs.YtelckldddflmmaaGreatDoor
open Go.RowKit Putlog

def okS (z : Int) : ByteArray := if Fits z then intB z else ⟨#[]⟩
def okE (z : Int) : Int := if Fits z then 0 else 30
theorem okS_fits {z : Int} (h : Fits z) : okS z = intB z := if_pos h
theorem okE_fits {z : Int} (h : Fits z) : okE z = 0 := if_pos h
def GivesInt (x : ByteArray) (k : Int) (w : World) (e : Ending) (w' : World) : Prop := e = .returned (.tuple #[.string x, .int .i64 k]) ∧ Below w.heap.size w w'
def cmpI (a b : Int) : Int := if a < b then -1 else if b < a then 1 else 0
/-- The contracts. -/
structure Api : Prop where
  add : ∀ (a b : Int) (w : World), Fits a → Fits b → Calls Tryz.prog 51 #[.string (intB a), .string (intB b)] w (GivesInt (okS (a + b)) (okE (a + b)) w)
  sub : ∀ (a b : Int) (w : World), Fits a → Fits b → Calls Tryz.prog 63 #[.string (intB a), .string (intB b)] w (GivesInt (okS (a - b)) (okE (a - b)) w)
  mul : ∀ (a b : Int) (w : World), Fits a → Fits b → Calls Tryz.prog 62 #[.string (intB a), .string (intB b)] w (GivesInt (okS (a * b)) (okE (a * b)) w)
  div : ∀ (a b : Int) (w : World), Fits a → Fits b → b ≠ 0 → Calls Tryz.prog 42 #[.string (intB a), .string (intB b)] w fun e w' => e = .returned (.tuple #[.string (intB (a / b)), .string (intB (a % b)), .int .i64 0]) ∧ Below w.heap.size w w'
  divNo : ∀ (a : Int) (w : World), Fits a → Calls Tryz.prog 42 #[.string (intB a), .string (intB 0)] w fun e w' => e = .returned (.tuple #[.string ⟨#[]⟩, .string ⟨#[]⟩, .int .i64 30]) ∧ Below w.heap.size w w'
  cmp : ∀ (a b : Int) (w : World), Fits a → Fits b → Calls Tryz.prog 43 #[.string (intB a), .string (intB b)] w fun e w' => e = .returned (.int .i64 (cmpI a b)) ∧ Below w.heap.size w w'
  valid : ∀ (s : ByteArray) (w : World), (s.size : Int) ≤ 9223372036854775807 → Calls Tryz.prog 108 #[.string s] w fun e w' => e = .returned (.bool (validT s.data.toList)) ∧ Below w.heap.size w w'
theorem fits_of {z : Int} {k : Nat} (h : z.natAbs < 10 ^ k) (hk : k ≤ 200) : Fits z := Nat.lt_of_lt_of_le h (Nat.pow_le_pow_right (by decide) hk)
theorem abs_add {a b : Int} {k : Nat} (ha : a.natAbs < 10 ^ k) (hb : b.natAbs < 10 ^ k) : (a + b).natAbs < 10 ^ (k + 1) := by rw [Nat.pow_succ]; omega
theorem abs_sub {a b : Int} {k : Nat} (ha : a.natAbs < 10 ^ k) (hb : b.natAbs < 10 ^ k) : (a - b).natAbs < 10 ^ (k + 1) := by rw [Nat.pow_succ]; omega
theorem abs_mul {a b : Int} {j k : Nat} (ha : a.natAbs < 10 ^ j) (hb : b.natAbs < 10 ^ k) : (a * b).natAbs < 10 ^ (j + k) := by
  rw [Int.natAbs_mul, Nat.pow_add]
  exact Nat.mul_lt_mul_of_lt_of_le ha (Nat.le_of_lt hb) (Nat.pow_pos (by decide))
theorem abs_up {a : Int} {j k : Nat} (ha : a.natAbs < 10 ^ j) (h : j ≤ k) : a.natAbs < 10 ^ k := Nat.lt_of_lt_of_le ha (Nat.pow_le_pow_right (by decide) h)
theorem c_add (H : Api) (a b r : Int) (w : World) (ha : Fits a) (hb : Fits b) (hr : Fits r) (e : a + b = r) :
    Calls Tryz.prog 51 #[.string (intB a), .string (intB b)] w fun e w' => e = .returned (.tuple #[.string (intB r), .int .i64 0]) ∧ Below w.heap.size w w' := by
  have h := H.add a b w ha hb
  rw [e, okS_fits hr, okE_fits hr] at h
  exact h
theorem c_sub (H : Api) (a b r : Int) (w : World) (ha : Fits a) (hb : Fits b) (hr : Fits r) (e : a - b = r) :
    Calls Tryz.prog 63 #[.string (intB a), .string (intB b)] w fun e w' => e = .returned (.tuple #[.string (intB r), .int .i64 0]) ∧ Below w.heap.size w w' := by
  have h := H.sub a b w ha hb
  rw [e, okS_fits hr, okE_fits hr] at h
  exact h
theorem c_mul (H : Api) (a b r : Int) (w : World) (ha : Fits a) (hb : Fits b) (hr : Fits r) (e : a * b = r) :
    Calls Tryz.prog 62 #[.string (intB a), .string (intB b)] w fun e w' => e = .returned (.tuple #[.string (intB r), .int .i64 0]) ∧ Below w.heap.size w w' := by
  have h := H.mul a b w ha hb
  rw [e, okS_fits hr, okE_fits hr] at h
  exact h
theorem intB_zero : intB 0 = ⟨#[48]⟩ := by decide +kernel
theorem intB_one : intB 1 = ⟨#[49]⟩ := by decide +kernel
theorem c_div (H : Api) (a b q r : Int) (w : World) (ha : Fits a) (hb : Fits b) (h0 : b ≠ 0) (e1 : a / b = q) (e2 : a % b = r) :
    Calls Tryz.prog 42 #[.string (intB a), .string (intB b)] w fun e w' => e = .returned (.tuple #[.string (intB q), .string (intB r), .int .i64 0]) ∧ Below w.heap.size w w' := by
  have h := H.div a b w ha hb h0
  rwa [e1, e2] at h
theorem c_cmp (H : Api) (a b k : Int) (w : World) (ha : Fits a) (hb : Fits b) (e : cmpI a b = k) :
    Calls Tryz.prog 43 #[.string (intB a), .string (intB b)] w fun e w' => e = .returned (.int .i64 k) ∧ Below w.heap.size w w' := by
  have h := H.cmp a b w ha hb
  rwa [e] at h
theorem intT_size {z : Int} {k : Nat} (h : z.natAbs < 10 ^ k) (hk : 1 ≤ k) : (intB z).size ≤ k + 1 := by
  have h1 := (natT_len z.natAbs k hk).2 h
  show (intT z).toArray.size ≤ k + 1
  rw [List.size_toArray]
  unfold intT
  split
  · simp; omega
  · omega
theorem c_valid (H : Api) (z : Int) (w : World) (h : Fits z) :
    Calls Tryz.prog 108 #[.string (intB z)] w fun e w' => e = .returned (.bool true) ∧ Below w.heap.size w w' := by
  have h1 := intT_size h (by decide)
  have h2 := H.valid (intB z) w (by omega)
  have h3 : validT (intB z).data.toList = true := by
    show validT (intT z).toArray.toList = true
    rw [List.toList_toArray]; exact (validT_int z).2 h
  rwa [h3] at h2
theorem isZero_no {z : Int} (h : z ≠ 0) : ((intB z).toList == [48]) = false := by
  have h1 : (intB 0).toList = [48] := by decide +kernel
  have h2 : (intB z).toList ≠ (intB 0).toList := fun e => h (intT_inj (by simpa [ByteArray.toList_eq, intB] using e))
  rw [h1] at h2
  simpa using h2
theorem intB_ne {a b : Int} : ((intB a).toList == (intB b).toList) = decide (a = b) := by
  by_cases h : a = b
  · subst h; simp
  · have : (intB a).toList ≠ (intB b).toList := fun e => h (intT_inj (by simpa [ByteArray.toList_eq, intB] using e))
    simp [h, this]
end Go.Proofs.YtelckldddflmmaaGreatDoor
/- IntCompare: The contracts of the order of magnitudes, and of what a magnitude has above an index. -/
namespace Go.Proofs.YtelckldddflmmaaGreatDoor
open Go.RowKit Putlog

theorem compareInt_eq (x y : Int) : Lib.compareInt x y = cmpI x y := by unfold Lib.compareInt cmpI; rfl
theorem drop_next {l : List Nat} {k : Nat} (h : k < l.length) : l.drop k = l.getD k 0 :: l.drop (k + 1) := by
  rw [List.drop_eq_getElem_cons h]; simp [List.getD_eq_getElem?_getD, h]
theorem cmp_top {A B : List Nat} {q : Nat} (hA : DigB 10000 A) (hB : DigB 10000 B) (hl : A.length = B.length) (hq : q < A.length) (hd : A.drop (q + 1) = B.drop (q + 1)) (hne : A.getD q 0 ≠ B.getD q 0) : cmpI (leV 10000 A : Nat) (leV 10000 B : Nat) = cmpI (A.getD q 0 : Nat) (B.getD q 0 : Nat) := by
  have eA : A = A.take q ++ A.getD q 0 :: A.drop (q + 1) := by rw [← drop_next hq, List.take_append_drop]
  have eB : B = B.take q ++ B.getD q 0 :: A.drop (q + 1) := by rw [hd, ← drop_next (by omega), List.take_append_drop]
  have hAt : DigB 10000 (A.take q) := fun x hx => hA x (List.mem_of_mem_take hx)
  have hBt : DigB 10000 (B.take q) := fun x hx => hB x (List.mem_of_mem_take hx)
  have hlt : (A.take q).length = (B.take q).length := by simp; omega
  rcases Nat.lt_or_gt_of_ne hne with h | h
  · have := leV_top (t := A.drop (q + 1)) hAt hlt h
    rw [← eA, ← eB] at this
    unfold cmpI
    rw [if_pos (by omega), if_pos (by omega)]
  · have := leV_top (t := A.drop (q + 1)) hBt hlt.symm h
    rw [← eA, ← eB] at this
    unfold cmpI
    rw [if_neg (by omega), if_pos (by omega), if_neg (by omega), if_pos (by omega)]
theorem cmp_len {A B : List Nat} (hA : DigB 10000 A) (hB : DigB 10000 B) (nA : Norm A) (nB : Norm B) (hl : A.length ≠ B.length) : cmpI (leV 10000 A : Nat) (leV 10000 B : Nat) = cmpI (A.length : Nat) (B.length : Nat) := by
  rcases Nat.lt_or_gt_of_ne hl with h | h
  · have := leV_len_lt (by decide) hA nB h
    unfold cmpI
    rw [if_pos (by omega), if_pos (by omega)]
  · have := leV_len_lt (by decide) hB nA h
    unfold cmpI
    rw [if_neg (by omega), if_pos (by omega), if_neg (by omega), if_pos (by omega)]
theorem cells_get {w : World} {a : Option Addr} {l : List Nat} (h : CellsAt w a (ofN l)) {k : Nat} (hk : k < l.length) : ∃ g o, a = some ⟨g, o, none⟩ ∧ ∀ j, j < l.length → w.cell? ⟨g, o + j, none⟩ = some (.int .i64 (l.getD j 0 : Nat)) := by
  rcases h with h | ⟨g, o, h1, h2⟩
  · have h3 : (ofN l).length = 0 := by rw [h]; rfl
    rw [ofN_len] at h3; omega
  · exact ⟨g, o, h1, fun j hj => by rw [← ofN_get]; exact h2 j (by rw [ofN_len]; exact hj)⟩
set_option maxRecDepth 100000 in
set_option maxHeartbeats 4000000 in
theorem compare_any (A B : List Nat) (hA : DigB 10000 A) (hB : DigB 10000 B) (nA : Norm A) (nB : Norm B) (hlA : A.length ≤ 100000) (hlB : B.length ≤ 100000) (a b : Option Addr) (ca cb : Nat) (w : World)
    (hra : Room A.length ca) (hrb : Room B.length cb) (hva : CellsAt w a (ofN A)) (hvb : CellsAt w b (ofN B)) :
    Calls Tryz.prog 101 #[.slice a A.length ca, .slice b B.length cb] w fun e w' => e = .returned (.int .i64 (cmpI (leV 10000 A : Nat) (leV 10000 B : Nat))) ∧ Below w.heap.size w w' := by
  have HDA := Lib.hid hA
  have HDB := Lib.hid hB
  have HVA := Lib.hid hva
  have HVB := Lib.hid hvb
  have hra1 := hra.1
  have hrb1 := hrb.1
  have hlA' : (A.length : Int) ≤ 100000 := by omega
  have hlB' : (B.length : Int) ≤ 100000 := by omega
  by_cases hl : A.length = B.length
  · obtain ⟨n, hn⟩ : ∃ n, n = A.length := ⟨_, rfl⟩
    rw [← hl] at hrb1 ⊢
    rw [← hn] at hra1 hrb1 hlA' ⊢
    have HN := Lib.hid hn
    have HL := Lib.hid hl
    clear hA hB hva hvb hra hrb hlA hlB hn hl nA nB hlB'
    have hd0 : ((n : Int) != n) = false := by simp
    go_enter Tryz.func101, Tryz.ntmps101
    go_wp2_with fail
    go_loopw [5] (fun i wr => ∃ k : Nat, k ≤ n ∧ i = .int .i64 ((k : Int) - 1) ∧ A.drop k = B.drop k ∧ Below w.heap.size w wr) (fun i _ => (1 + intOf i).toNat)
    case atStart => exact ⟨n, Nat.le_refl _, rfl, by have h1 := HN.out; have h2 := HL.out; rw [List.drop_of_length_le (by omega), List.drop_of_length_le (by omega)], Below.refl _ _⟩
    case round =>
      obtain ⟨k, hk, rfl, hd, hB⟩ := hrel
      have HD := Lib.hid hd
      have HB := Lib.hid hB
      clear hd hB
      rcases Nat.eq_zero_or_pos k with rfl | h0
      · have HE : Hid (cmpI (leV 10000 A : Nat) (leV 10000 B : Nat) = 0) := by
          show _ = _
          have : A = B := by have := HD.out; simpa using this
          rw [this]; unfold cmpI; simp
        go_wp2_with fail
        go_ret
        rw [HE.out]
        exact ⟨rfl, HB.out⟩
      · obtain ⟨q, rfl⟩ : ∃ q, k = q + 1 := ⟨k - 1, by omega⟩
        have hqA : q < A.length := by have := HN.out; omega
        have hqB : q < B.length := by have := HL.out; omega
        obtain ⟨ga, oa, rfl, hca⟩ := cells_get HVA.out hqA
        obtain ⟨gb, ob, rfl, hcb⟩ := cells_get HVB.out hqB
        have hcx := keptBelow HB.out (hca q hqA)
        have hcy := keptBelow HB.out (hcb q hqB)
        have hqe : ((q + 1 : Nat) : Int) - 1 = q := by omega
        have hqn : (q : Int) < n := by omega
        rw [hqe]
        by_cases hne : A.getD q 0 = B.getD q 0
        · have HE : Hid (A.drop q = B.drop q) := by show _ = _; rw [drop_next hqA, drop_next hqB, hne, HD.out]
          have hnb : (((A.getD q 0 : Nat) : Int) != ((B.getD q 0 : Nat) : Int)) = false := by rw [hne]; simp
          clear hca hcb hqA hqB hne
          generalize A.getD q 0 = x at *
          generalize B.getD q 0 = y at *
          go_wp2_with fail
          go_quiet (fail)
          go_wp2_with fail
          go_roundw
          case rel => exact ⟨q, by omega, by go_num, HE.out, below_drewN HB.out _⟩
          case measure => simp [intOf]; omega
        · have HE := Lib.hid (cmp_top HDA.out HDB.out HL.out hqA HD.out hne)
          have hnb : (((A.getD q 0 : Nat) : Int) != ((B.getD q 0 : Nat) : Int)) = true := by rw [bne_iff_ne]; omega
          clear hca hcb hqA hqB hne
          generalize A.getD q 0 = x at *
          generalize B.getD q 0 = y at *
          go_wp2_with fail
          go_quiet (fail)
          go_wp2_with fail
          have hcx2 : (wr.drewN nq).cell? ⟨ga, oa + q, none⟩ = some (.int .i64 (x : Nat)) := hcx
          have hcy2 : (wr.drewN nq).cell? ⟨gb, ob + q, none⟩ = some (.int .i64 (y : Nat)) := hcy
          have HB2 : Hid (Below w.heap.size w (wr.drewN nq)) := below_drewN HB.out _
          generalize wr.drewN nq = w9 at *
          clear nq hcx hcy
          go_quiet ((go_at_call 124; exact Calls.quiet_of_same (Tryz.cmp_Compare_int _ _ _)))
          go_wp2_with fail
          go_ret
          refine ⟨?_, below_drewN HB2.out _⟩
          rw [HE.out, ← compareInt_eq]; rfl
  · have HE := Lib.hid (cmp_len hA hB nA nB hl)
    obtain ⟨n, hn⟩ : ∃ n, n = A.length := ⟨_, rfl⟩
    obtain ⟨m, hm⟩ : ∃ m, m = B.length := ⟨_, rfl⟩
    have hnm : ((n : Int) != m) = true := by rw [bne_iff_ne]; omega
    rw [← hn, ← hm] at HE
    rw [← hn] at hra1 hlA' ⊢
    rw [← hm] at hrb1 hlB' ⊢
    clear hA hB hva hvb hra hrb hlA hlB hn hm hl nA nB
    go_enter Tryz.func101, Tryz.ntmps101
    go_wp2_with (go_at_call 124; refine (Tryz.cmp_Compare_int _ _ _).mono ?_; rintro e w1 ⟨rfl, rfl⟩)
    go_ret
    refine ⟨?_, Below.refl _ _⟩
    rw [HE.out, ← compareInt_eq]; rfl
end Go.Proofs.YtelckldddflmmaaGreatDoor
/- IntSearch: The contracts of sort.Search over a function value, and of what a magnitude has above an index. -/
namespace Go.Proofs.YtelckldddflmmaaGreatDoor
open Go.RowKit Putlog

set_option maxRecDepth 100000 in
set_option maxHeartbeats 2000000 in
theorem above_any (l : List Nat) (hd : DigB 10000 l) (cut : Nat) (hl : l.length ≤ cut + 3) (hlb : l.length ≤ 100000) (hcb : cut ≤ 100000) (a : Option Addr) (c : Nat) (w : World) (hr : Room l.length c) (hv : CellsAt w a (ofN l)) :
    Calls Tryz.prog 139 #[.slice a l.length c, .int .i64 cut] w fun e w' => e = .returned (.int .i64 (leV 10000 (l.drop cut) : Nat)) ∧ w' = w := by
  have HD := Lib.hid hd
  have HV := Lib.hid hv
  have hr1 := hr.1
  obtain ⟨n, hn⟩ : ∃ n, n = l.length := ⟨_, rfl⟩
  rw [← hn] at hl hlb hr1 ⊢
  have HN := Lib.hid hn
  have HL : Hid (n ≤ cut + 3) := hl
  have hnb : (n : Int) ≤ 100000 := by omega
  have hcb' : (cut : Int) ≤ 100000 := by omega
  clear hd hv hr hn hl
  go_enter Tryz.func139, Tryz.ntmps139
  go_wp2_with fail
  go_loop [5, 6] (fun v i => ∃ k : Nat, k ≤ n ∧ (cut ≤ k ∨ k = n) ∧ i = .int .i64 ((k : Int) - 1) ∧ v = .int .i64 (leV 10000 (l.drop k) : Nat)) (fun _ i => (1 + intOf i).toNat)
  case atStart => exact ⟨n, Nat.le_refl _, .inr rfl, rfl, by rw [List.drop_of_length_le (by have := HN.out; omega)]; rfl⟩
  case round =>
    obtain ⟨k, hk, hck, rfl, rfl⟩ := hrel
    by_cases hge : cut < k
    · obtain ⟨q, rfl⟩ : ∃ q, k = q + 1 := ⟨k - 1, by omega⟩
      have hqe : ((q + 1 : Nat) : Int) - 1 = q := by omega
      have hqn : (q : Int) < n := by omega
      have hqc : (cut : Int) ≤ q := by omega
      have hql : q < l.length := by have := HN.out; omega
      obtain ⟨g, o, rfl, hcell⟩ := cells_get HV.out hql
      have hcx := hcell q hql
      have hxb := digB_get HD.out hql
      have hxb' : ((l.getD q 0 : Nat) : Int) < 10000 := by omega
      have hN : leV 10000 (l.drop (q + 1)) < 10000 ^ 3 := by
        have h1 : DigB 10000 (l.drop (q + 1)) := fun x hx => HD.out x (List.mem_of_mem_drop hx)
        have h2 := leV_lt h1
        have h3 : 10000 ^ (l.drop (q + 1)).length ≤ 10000 ^ 3 := Nat.pow_le_pow_right (by decide) (by simp; have := HL.out; have := HN.out; omega)
        omega
      have hnx : leV 10000 (l.drop q) = l.getD q 0 + 10000 * leV 10000 (l.drop (q + 1)) := by rw [drop_next hql, leV]
      rw [hqe]
      generalize leV 10000 (l.drop (q + 1)) = y at *
      generalize l.getD q 0 = x at *
      have hyb : (y : Int) < 1000000000000 := by omega
      have HX : Hid (((leV 10000 (l.drop q) : Nat) : Int) = (y : Int) * 10000 + x) := by show _ = _; omega
      clear hN hnx hcell hxb
      go_wp2_with fail
      go_round
      case rel => exact ⟨q, by omega, .inl (by omega), by go_num, by rw [HX.out]⟩
      case measure => simp [intOf]; omega
    · have hkc : ((k : Int) - 1) < cut := by omega
      have HE : Hid (leV 10000 (l.drop k) = leV 10000 (l.drop cut)) := by
        show _ = _
        rcases Nat.lt_or_ge k cut with h | h
        · have h1 : k = n := by omega
          rw [List.drop_of_length_le (by have := HN.out; omega), List.drop_of_length_le (by have := HN.out; omega)]
        · have : k = cut := by omega
          rw [this]
      rw [HE.out]
      clear hge
      go_wp2_with fail
      go_ret
      exact ⟨rfl, rfl⟩

set_option maxRecDepth 100000 in
set_option maxHeartbeats 2000000 in
/-- sort.Search over a function value that answers p and keeps I. -/
theorem search_any {g : Nat} {lb : Array Value} (eg : ∀ args w, (callFunc g args).run Tryz.prog w = .ok (.enter g args) w) (n : Nat) (hn : n ≤ 100000) (p : Nat → Bool) (I : World → Prop) (w : World) (h0 : I w)
    (hstep : ∀ (h : Nat) (w : World), h < n → I w → Calls Tryz.prog g (#[.int .i64 h] ++ lb) w fun e w' => e = .returned (.bool (p h)) ∧ I w') :
    Calls Tryz.prog 140 #[.int .i64 n, .func (.func g) #[] lb] w fun e w' => ∃ r : Nat, e = .returned (.int .i64 r) ∧ Firsts p n r ∧ I w' := by
  have HS := Lib.hid hstep
  have H0 := Lib.hid h0
  have hnb : (n : Int) ≤ 100000 := by omega
  clear hstep h0
  go_enter Tryz.func140, Tryz.ntmps140
  go_wp2_with fail
  go_loopw [5, 6] (fun a b wr => ∃ i j : Nat, i ≤ j ∧ j ≤ n ∧ a = .int .i64 i ∧ b = .int .i64 j ∧ (i = 0 ∨ p (i - 1) = false) ∧ (j = n ∨ p j = true) ∧ I wr) (fun a b _ => (intOf b - intOf a).toNat)
  case atStart => exact ⟨0, n, by omega, by omega, rfl, rfl, .inl rfl, .inl rfl, H0.out⟩
  case round =>
    obtain ⟨i, j, hij, hjn, rfl, rfl, hi, hj, hI⟩ := hrel
    have HI := Lib.hid hI
    have HP := Lib.hid hi
    have HQ := Lib.hid hj
    clear hI hi hj
    have hjb : (j : Int) ≤ 100000 := by omega
    by_cases hlt : i < j
    · have hlt' : (i : Int) < j := by omega
      obtain ⟨h, hh⟩ : ∃ h, h = (i + j) / 2 := ⟨_, rfl⟩
      have h1 : i ≤ h := by omega
      have h2 : h < j := by omega
      have hdiv : ((i : Int) + (j : Int)) / 2 = (h : Nat) := by omega
      have hhb : (h : Int) ≤ 100000 := by omega
      have HC := Lib.hid (HS.out h wr (by omega) HI.out)
      clear hh HI
      obtain ⟨bv, hbv⟩ : ∃ bv, bv = p h := ⟨_, rfl⟩
      have HBV := Lib.hid hbv
      rw [← hbv] at HC
      clear hbv
      go_wp2_with fail
      refine HC.out.mono ?_
      rintro e w1 ⟨rfl, hI1⟩
      have HI1 := Lib.hid hI1
      clear hI1 HC
      cases bv with
      | true =>
        go_wp2_with fail
        go_roundw
        case rel => exact ⟨i, h, by omega, by omega, rfl, rfl, HP.out, .inr HBV.out.symm, HI1.out⟩
        case measure => simp [intOf]; omega
      | false =>
        go_wp2_with fail
        go_roundw
        case rel => exact ⟨h + 1, j, by omega, by omega, by go_num, rfl, .inr (by rw [Nat.add_sub_cancel]; exact HBV.out.symm), HQ.out, HI1.out⟩
        case measure => simp [intOf]; omega
    · obtain rfl : i = j := by omega
      go_wp2_with fail
      go_ret
      exact ⟨i, rfl, ⟨hjn, HP.out, HQ.out⟩, HI.out⟩
end Go.Proofs.YtelckldddflmmaaGreatDoor
/- IntGroup: The contract of a group of a quotient: the binary search with its closure. -/
namespace Go.Proofs.YtelckldddflmmaaGreatDoor
open Go.RowKit Putlog

/-- What the closure of the search has at hand. -/
structure QG (w : World) (bM bL bA : Nat) (a b : Option Addr) (ca cb : Nat) (A B : List Nat) (least : Nat) : Prop where
  hm : w.cell? ⟨bM, 0, none⟩ = some (.func (.func 121) #[.slice b B.length cb] #[])
  hl : w.cell? ⟨bL, 0, none⟩ = some (.int .i64 (least : Nat))
  ha : w.cell? ⟨bA, 0, none⟩ = some (.slice a A.length ca)
  hca : CellsAt w a (ofN A)
  hcb : CellsAt w b (ofN B)
theorem QG.via {w w' : World} {bM bL bA : Nat} {a b : Option Addr} {ca cb : Nat} {A B : List Nat} {least : Nat} (hB : Below w.heap.size w w') (h : QG w bM bL bA a b ca cb A B least) : QG w' bM bL bA a b ca cb A B least :=
  ⟨keptBelow hB h.hm, keptBelow hB h.hl, keptBelow hB h.ha, h.hca.via hB, h.hcb.via hB⟩
theorem cmp_gt (x y : Nat) : decide (0 < cmpI (x : Int) (y : Int)) = decide (y < x) := by
  unfold cmpI
  rcases Nat.lt_trichotomy x y with h | h | h
  · rw [if_pos (by omega)]; simp; omega
  · subst h; simp
  · rw [if_neg (by omega), if_pos (by omega)]; simp; omega
theorem digsL_len_le {v n : Nat} (h : v < 10000 ^ n) : (digsL 10000 v).length ≤ n := (digsL_len (by decide) v n).2 h
theorem scaled_len {B : List Nat} {f : Nat} (hB : DigB 10000 B) (hf : f ≤ 10000) : (digsL 10000 (leV 10000 B * f)).length ≤ B.length + 2 := by
  refine digsL_len_le ?_
  have h1 := leV_lt hB
  have h2 : leV 10000 B * f ≤ 10000 ^ B.length * 10000 := Nat.mul_le_mul (by omega) hf
  have h3 : 0 < 10000 ^ B.length := Nat.pow_pos (by decide)
  rw [Nat.pow_add]; omega
set_option maxRecDepth 100000 in
set_option maxHeartbeats 4000000 in
theorem group1_any (A B : List Nat) (hA : DigB 10000 A) (hB : DigB 10000 B) (nA : Norm A) (hlA : A.length ≤ 20000) (hlB : B.length ≤ 20000) (bM bL bA : Nat) (a b : Option Addr) (ca cb : Nat) (hra : Room A.length ca) (least h : Nat) (hf : least + h + 1 ≤ 10000) (w : World) (hq : QG w bM bL bA a b ca cb A B least) :
    Calls Tryz.prog 141 #[.int .i64 h, .pointer (some ⟨bM, 0, none⟩), .pointer (some ⟨bL, 0, none⟩), .pointer (some ⟨bA, 0, none⟩)] w fun e w' => e = .returned (.bool (decide (leV 10000 A < leV 10000 B * (least + h + 1)))) ∧ Below w.heap.size w w' := by
  have HQ := Lib.hid hq
  have hcM := hq.hm
  have hcL := hq.hl
  have hcA := hq.ha
  have hlb : (least : Int) ≤ 10000 := by omega
  have hhb : (h : Int) ≤ 10000 := by omega
  have HS : Hid (∀ W : World, CellsAt W b (ofN B) → Calls Tryz.prog 121 #[.slice b B.length cb, .int .i64 ((least + h + 1 : Nat) : Int)] W fun e w' => (∃ g c, e = .returned (.slice (some ⟨g, 0, none⟩) (digsL 10000 (leV 10000 B * (least + h + 1))).length c) ∧ Room (digsL 10000 (leV 10000 B * (least + h + 1))).length c ∧ CellsAt w' (some ⟨g, 0, none⟩) (ofN (digsL 10000 (leV 10000 B * (least + h + 1))))) ∧ Below W.heap.size W w') := by
    intro W hc
    have := scaled_any B (least + h + 1) hB hf (by omega) b cb W hc
    refine this.mono ?_
    rintro e w' ⟨⟨v, rfl, hn⟩, hb⟩
    obtain ⟨a', c', h1, h2, h3⟩ := hn.mag
    obtain ⟨g, c, rfl, _⟩ := hn
    cases h1
    exact ⟨⟨g, _, rfl, h2, h3⟩, hb⟩
  have HC : Hid (∀ (W : World) (g c : Nat), CellsAt W a (ofN A) → Room (digsL 10000 (leV 10000 B * (least + h + 1))).length c → CellsAt W (some ⟨g, 0, none⟩) (ofN (digsL 10000 (leV 10000 B * (least + h + 1)))) →
      Calls Tryz.prog 101 #[.slice (some ⟨g, 0, none⟩) (digsL 10000 (leV 10000 B * (least + h + 1))).length c, .slice a A.length ca] W fun e w' => e = .returned (.int .i64 (cmpI ((leV 10000 B * (least + h + 1) : Nat) : Int) (leV 10000 A : Nat))) ∧ Below W.heap.size W w') := by
    intro W g c h1 h2 h3
    have := compare_any (digsL 10000 (leV 10000 B * (least + h + 1))) A (digsL_dig (by decide) _) hA (digsL_norm (by decide) _) nA (by have := scaled_len hB hf; omega) (by omega) _ _ _ _ W h2 hra h3 h1
    rwa [leV_digsL (by decide)] at this
  have hw1 : IntKind.i64.wrap ((least : Int) + h) = ((least + h : Nat) : Int) := by rw [IntKind.wrap_i64]; omega
  have hw2 : IntKind.i64.wrap (((least + h : Nat) : Int) + 1) = ((least + h + 1 : Nat) : Int) := by rw [IntKind.wrap_i64]; omega
  generalize hs1 : least + h = s1 at *
  generalize hs2 : s1 + 1 = s2 at *
  have hgt := cmp_gt (leV 10000 B * s2) (leV 10000 A)
  generalize leV 10000 B * s2 = P at *
  generalize digsL 10000 P = D at *
  generalize cmpI (P : Int) (leV 10000 A : Nat) = cv at *
  generalize decide (leV 10000 A < P) = R at *
  clear hA hB nA hlA hlB hra hf hq hs1 hs2
  go_enter Tryz.func141, Tryz.ntmps141
  go_wp2_with fail
  go_region_held3 (fun w' => w'.cell? ⟨bM, 0, none⟩ = some (.func (.func 121) #[.slice b B.length cb] #[]) ∧ w'.cell? ⟨bL, 0, none⟩ = some (.int .i64 (least : Nat)) ∧ w'.cell? ⟨bA, 0, none⟩ = some (.slice a A.length ca)) (first | exact ⟨hcM, hcL, hcA⟩ | exact ⟨keptBelow hB1 hcM, keptBelow hB1 hcL, keptBelow hB1 hcA⟩ | exact ⟨keptBelow hB2 (keptBelow hB1 hcM), keptBelow hB2 (keptBelow hB1 hcL), keptBelow hB2 (keptBelow hB1 hcA)⟩) (first
    | (go_at_call 121; (with_reducible refine (HS.out _ ?_).mono ?_); exact HQ.out.hcb; rintro e w1 ⟨⟨g1, c1, rfl, hr1, hc1⟩, hB1⟩)
    | (go_at_call 101; (with_reducible refine (HC.out _ _ _ ?_ hr1 ?_).mono ?_); exact CellsAt.via hB1 HQ.out.hca; exact hc1; rintro e w2 ⟨rfl, hB2⟩))
  go_wp2_with fail
  go_ret
  exact ⟨rfl, belowVia hB2 ⟨hB1.os, hB1.tape, hB1.output, hB1.size, hB1.block⟩⟩

theorem leV_drop' {l : List Nat} (hd : DigB 10000 l) (k : Nat) : leV 10000 (l.drop k) = leV 10000 l / 10000 ^ k := by
  rcases Nat.lt_or_ge l.length k with h | h
  · have h1 := leV_lt hd
    have h2 : 10000 ^ l.length ≤ 10000 ^ k := Nat.pow_le_pow_right (by decide) (by omega)
    rw [List.drop_of_length_le (by omega), Nat.div_eq_of_lt (by omega)]; rfl
  · exact leV_drop (by decide) hd k h
theorem most_le {A B K : Nat} (hK : 0 < K) (h : A < 10000 * B) (h1 : 1 ≤ B / K) (h2 : K = 1 ∨ 10000 ≤ B / K) : A / K / (B / K) ≤ 10000 := by
  rcases h2 with rfl | h2
  · rw [Nat.div_one, Nat.div_one]
    have h3 : 0 < B := by rw [Nat.div_one] at h1; exact h1
    exact Nat.le_of_lt ((Nat.div_lt_iff_lt_mul h3).2 h)
  · have h3 : B < (B / K + 1) * K := by
      have := Nat.lt_div_mul_add hK (a := B); rw [Nat.add_mul]; omega
    have h4 : A / K < 10000 * (B / K + 1) := by
      refine (Nat.div_lt_iff_lt_mul hK).2 ?_
      rw [Nat.mul_assoc]
      exact Nat.lt_trans h ((Nat.mul_lt_mul_left (show 0 < 10000 by decide)).2 h3)
    have h5 : A / K / (B / K) < 10001 := by
      refine (Nat.div_lt_iff_lt_mul (by omega)).2 ?_
      have : 10001 * (B / K) = 10000 * (B / K) + B / K := by rw [show 10001 = 10000 + 1 from rfl, Nat.add_mul, Nat.one_mul]
      omega
    omega
theorem norm_pow {B : List Nat} (nB : Norm B) (h0 : B ≠ []) {k : Nat} (hk : k < B.length) : 10000 ^ (B.length - 1 - k) ≤ leV 10000 B / 10000 ^ k := by
  rcases norm_cases B with h | ⟨r, x, rfl⟩
  · exact absurd h h0
  · have h1 := norm_ge (B := 10000) (by decide) nB
    refine (Nat.le_div_iff_mul_le (Nat.pow_pos (by decide))).2 ?_
    rw [← Nat.pow_add]
    simp only [List.length_append, List.length_singleton] at hk ⊢
    rw [show r.length + 1 - 1 - k + k = r.length by omega]
    exact h1
theorem tdiv_nat (a b : Nat) : (a : Int).tdiv (b : Int) = ((a / b : Nat) : Int) := by rw [Int.tdiv_eq_ediv_of_nonneg (by omega)]; simp
theorem cell_box (W : World) (v : Value) (t : TypeId) : (W.alloc (.cells #[v] t)).cell? ⟨W.heap.size, 0, none⟩ = some v := by rw [World.cell?_alloc_new]; rfl
theorem qg_made {w : World} {a b : Option Addr} {ca cb : Nat} {A B : List Nat} {least : Nat} {t1 t2 t3 : TypeId} (hva : CellsAt w a (ofN A)) (hvb : CellsAt w b (ofN B)) :
    QG ((((w.alloc (.cells #[.slice a A.length ca] t1)).alloc (.cells #[.int .i64 (least : Nat)] t2)).alloc (.cells #[.func (.func 121) #[.slice b B.length cb] #[]] t3)).drew) (w.heap.size + 1 + 1) (w.heap.size + 1) w.heap.size a b ca cb A B least ∧
    Below w.heap.size w ((((w.alloc (.cells #[.slice a A.length ca] t1)).alloc (.cells #[.int .i64 (least : Nat)] t2)).alloc (.cells #[.func (.func 121) #[.slice b B.length cb] #[]] t3)).drew) := by
  have b1 : Below w.heap.size w (w.alloc (.cells #[.slice a A.length ca] t1)) := (Below.refl _ _).alloc (Nat.le_refl _) _
  have c1 := cell_box w (.slice a A.length ca) t1
  have z1 : (w.alloc (.cells #[.slice a A.length ca] t1)).heap.size = w.heap.size + 1 := by simp
  generalize w.alloc (.cells #[.slice a A.length ca] t1) = w1 at *
  have b2 : Below w1.heap.size w1 (w1.alloc (.cells #[.int .i64 (least : Nat)] t2)) := (Below.refl _ _).alloc (Nat.le_refl _) _
  have c2 := cell_box w1 (.int .i64 (least : Nat)) t2
  have z2 : (w1.alloc (.cells #[.int .i64 (least : Nat)] t2)).heap.size = w1.heap.size + 1 := by simp
  generalize w1.alloc (.cells #[.int .i64 (least : Nat)] t2) = w2 at *
  have b3 : Below w2.heap.size w2 (w2.alloc (.cells #[.func (.func 121) #[.slice b B.length cb] #[]] t3)) := (Below.refl _ _).alloc (Nat.le_refl _) _
  have c3 := cell_box w2 (.func (.func 121) #[.slice b B.length cb] #[]) t3
  generalize w2.alloc (.cells #[.func (.func 121) #[.slice b B.length cb] #[]] t3) = w3 at *
  have b4 := belowVia b3 (belowVia b2 b1)
  have b5 : Below w2.heap.size w2 w3.drew := ⟨b3.os, b3.tape, b3.output, b3.size, b3.block⟩
  rw [z1] at c2
  rw [z2, z1] at c3
  refine ⟨⟨c3, keptBelow b5 c2, keptBelow b5 (keptBelow b2 c1), hva.via ⟨b4.os, b4.tape, b4.output, b4.size, b4.block⟩, hvb.via ⟨b4.os, b4.tape, b4.output, b4.size, b4.block⟩⟩, ⟨b4.os, b4.tape, b4.output, b4.size, b4.block⟩⟩
set_option maxRecDepth 100000 in
set_option maxHeartbeats 4000000 in
theorem group_any (A B : List Nat) (hA : DigB 10000 A) (hB : DigB 10000 B) (nA : Norm A) (nB : Norm B) (h0 : B ≠ []) (hlB : B.length ≤ 10000) (hlA : A.length ≤ B.length + 1) (hlt : leV 10000 A < 10000 * leV 10000 B) (a b : Option Addr) (ca cb : Nat) (hra : Room A.length ca) (hrb : Room B.length cb) (w : World) (hva : CellsAt w a (ofN A)) (hvb : CellsAt w b (ofN B)) :
    Calls Tryz.prog 120 #[.slice a A.length ca, .slice b B.length cb] w fun e w' => e = .returned (.int .i64 (leV 10000 A / leV 10000 B : Nat)) ∧ Below w.heap.size w w' := by
  have hlen0 : 0 < B.length := List.length_pos_iff.2 h0
  obtain ⟨cut, hcut⟩ : ∃ cut, cut = B.length - 2 := ⟨_, rfl⟩
  have hmax : max (0 : Int) ((B.length : Int) - 2) = (cut : Nat) := by omega
  have hp : 0 < 10000 ^ cut := Nat.pow_pos (by decide)
  have hdv := norm_pow nB h0 (k := cut) (by omega)
  have hd1 : 1 ≤ leV 10000 B / 10000 ^ cut := Nat.le_trans (Nat.pow_pos (by decide)) hdv
  have hd2 : 10000 ^ cut = 1 ∨ 10000 ≤ leV 10000 B / 10000 ^ cut := by
    rcases Nat.lt_or_ge B.length 3 with h | h
    · have : cut = 0 := by omega
      rw [this]; exact .inl rfl
    · rw [show B.length - 1 - cut = 1 by omega] at hdv
      exact .inr hdv
  have hmost := most_le hp hlt hd1 hd2
  obtain ⟨hb1, hb2⟩ := group_bounds (A := leV 10000 A) (B := leV 10000 B) hp hd1
  have huA := leV_drop' hA cut
  have huB := leV_drop' hB cut
  have hub : leV 10000 (A.drop cut) < 10000 ^ 3 := by
    have h1 : DigB 10000 (A.drop cut) := fun x hx => hA x (List.mem_of_mem_drop hx)
    have h2 := leV_lt h1
    have h3 : 10000 ^ (A.drop cut).length ≤ 10000 ^ 3 := Nat.pow_le_pow_right (by decide) (by simp; omega)
    omega
  have hvbd : leV 10000 (B.drop cut) < 10000 ^ 3 := by
    have h1 : DigB 10000 (B.drop cut) := fun x hx => hB x (List.mem_of_mem_drop hx)
    have h2 := leV_lt h1
    have h3 : 10000 ^ (B.drop cut).length ≤ 10000 ^ 3 := Nat.pow_le_pow_right (by decide) (by simp; omega)
    omega
  rw [← huA, ← huB] at hb1 hb2 hmost
  rw [← huB] at hd1
  have HBp : 0 < leV 10000 B := leV_pos (by decide) nB h0
  have HUA := Lib.hid (fun W hc => above_any A hA cut (by omega) (by omega) (by omega) a ca W hra hc)
  have HUB := Lib.hid (fun W hc => above_any B hB cut (by omega) (by omega) (by omega) b cb W hrb hc)
  have hbt1 : leV 10000 (A.drop cut) / (leV 10000 (B.drop cut) + 1) ≤ 10000 := by omega
  generalize leV 10000 (A.drop cut) = u at *
  generalize leV 10000 (B.drop cut) = d at *
  obtain ⟨least, hle⟩ : ∃ least, least = u / (d + 1) := ⟨_, rfl⟩
  obtain ⟨most, hmo⟩ : ∃ most, most = u / d := ⟨_, rfl⟩
  rw [← hle] at hb1 hbt1
  rw [← hmo] at hb2 hmost
  have hq1 : IntKind.i64.wrap ((d : Int) + 1) = ((d + 1 : Nat) : Int) := by rw [IntKind.wrap_i64]; omega
  have hq2 : (u : Int).tdiv ((d + 1 : Nat) : Int) = (least : Nat) := by rw [hle]; exact tdiv_nat u (d + 1)
  have hq3 : (u : Int).tdiv (d : Int) = (most : Nat) := by rw [hmo]; exact tdiv_nat u d
  have hq4 : IntKind.i64.wrap ((most : Int) - least) = ((most - least : Nat) : Int) := by rw [IntKind.wrap_i64]; omega
  have hS : Hid (∀ (bM bL bA : Nat) (W0 : World), QG W0 bM bL bA a b ca cb A B least → ∀ W, Below W0.heap.size W0 W → Calls Tryz.prog 140 #[.int .i64 ((most - least : Nat) : Int), .func (.func 141) #[] #[.pointer (some ⟨bM, 0, none⟩), .pointer (some ⟨bL, 0, none⟩), .pointer (some ⟨bA, 0, none⟩)]] W fun e w' => ∃ r : Nat, e = .returned (.int .i64 r) ∧ least + r = leV 10000 A / leV 10000 B ∧ Below W0.heap.size W0 w') := by
    intro bM bL bA W0 hq W hbel
    refine (search_any (g := 141) (enters_of Tryz.func141 (by kernel_rfl) rfl) (most - least) (by omega) (fun m => decide (leV 10000 A < leV 10000 B * (least + m + 1))) (fun W => Below W0.heap.size W0 W) W hbel (fun h W1 hh hI => ?_)).mono ?_
    · exact (group1_any A B hA hB nA (by omega) (by omega) bM bL bA a b ca cb hra least h (by omega) W1 (hq.via hI)).mono fun e w' ⟨h1, h2⟩ => ⟨h1, belowVia h2 hI⟩
    · rintro e w' ⟨r, h1, h2, h3⟩
      exact ⟨r, h1, group_found HBp hb1 hb2 h2, h3⟩
  obtain ⟨Q, hQ⟩ : ∃ Q, Q = leV 10000 A / leV 10000 B := ⟨_, rfl⟩
  have hQb : Q ≤ 10000 := by omega
  rw [← hQ] at hS ⊢
  have HVA := Lib.hid hva
  have HVB := Lib.hid hvb
  have hub' : (u : Int) < 1000000000000 := by omega
  have hdb' : (d : Int) < 1000000000000 := by omega
  have hdne : (d : Int) ≠ 0 := by omega
  have hdn2 : ((d : Int) == 0) = false := by simpa using hdne
  have hd1n : ((d + 1 : Nat) : Int) ≠ 0 := by omega
  have hd1e : (((d + 1 : Nat) : Int) == 0) = false := by simpa using hd1n
  have hlBb : (B.length : Int) ≤ 10000 := by omega
  have hcb : (cut : Int) ≤ 10000 := by omega
  have hmb' : (most : Int) ≤ 10000 := by omega
  have hlb' : (least : Int) ≤ 10000 := by omega
  generalize hs1 : d + 1 = d1 at *
  clear hA hB nA nB h0 hlB hlA hlt hra hrb hva hvb hcut hp hdv hd1 hd2 hmost hb1 hb2 huA huB hub hvbd HBp hbt1 hle hmo hlen0 hs1 hQ
  go_enter Tryz.func120, Tryz.ntmps120
  go_wp2_with fail
  refine (HUA.out _ ((HVA.out).via ((Below.refl _ _).alloc (Nat.le_refl _) _))).mono ?_
  rintro e w1 ⟨rfl, rfl⟩
  go_wp2_with fail
  refine (HUB.out _ ((HVB.out).via ((Below.refl _ _).alloc (Nat.le_refl _) _))).mono ?_
  rintro e w1 ⟨rfl, rfl⟩
  go_wp2_with fail
  go_region
  go_wp2_with fail
  have hW := qg_made (ca := ca) (cb := cb) (least := least) (t1 := 80) (t2 := 3) (t3 := 127) HVA.out HVB.out
  generalize World.drew _ = W4 at hW ⊢
  have hcl := hW.1.hl
  have HQG := Lib.hid hW.1
  have HBW := Lib.hid hW.2
  have HSR := Lib.hid (hS.out _ _ _ W4 HQG.out)
  clear hW
  go_region_held3 (fun w' => w'.cell? ⟨w.heap.size + 1, 0, none⟩ = some (.int .i64 (least : Nat))) (first | exact hcl | exact keptBelow hB5 hcl) (first
    | (go_at_call 140; (with_reducible refine (HSR.out _ ?_).mono ?_); exact (Below.refl _ _).drew; rintro e w5 ⟨r, rfl, hr, hB5⟩))
  have hwr : IntKind.i64.wrap ((least : Int) + r) = (Q : Nat) := by rw [IntKind.wrap_i64]; omega
  rw [hwr]
  go_wp2_with fail
  go_ret
  exact ⟨rfl, belowVia hB5 HBW.out⟩
end Go.Proofs.YtelckldddflmmaaGreatDoor
