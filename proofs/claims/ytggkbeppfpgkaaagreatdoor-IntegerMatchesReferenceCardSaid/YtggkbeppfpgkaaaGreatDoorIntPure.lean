/- Plain mathematics of layer 3: lists of digits to a base, the lowest one first; the decimal text of a number. Nothing of the program. -/
namespace Putlog

/-- The number of a list of digits to the base B, the lowest one first. -/
def leV (B : Nat) : List Nat → Nat
  | [] => 0
  | x :: l => x + B * leV B l
theorem leV_append (B : Nat) : ∀ (l r : List Nat), leV B (l ++ r) = leV B l + B ^ l.length * leV B r
  | [], r => by simp [leV]
  | x :: l, r => by
    simp only [List.cons_append, leV, leV_append B l r, List.length_cons, Nat.pow_succ]
    rw [Nat.mul_add, Nat.add_assoc, Nat.mul_comm (B ^ l.length) B, Nat.mul_assoc]
theorem leV_snoc (B : Nat) (l : List Nat) (x : Nat) : leV B (l ++ [x]) = leV B l + B ^ l.length * x := by
  rw [leV_append]; simp [leV]
theorem leV_zeros (B n : Nat) : leV B (List.replicate n 0) = 0 := by
  induction n with
  | zero => rfl
  | succ n ih => rw [List.replicate_succ, leV, ih]; rfl
/-- All digits are less than the base. -/
def DigB (B : Nat) (l : List Nat) : Prop := ∀ x ∈ l, x < B
theorem DigB.nil (B : Nat) : DigB B [] := fun x h => by cases h
theorem DigB.cons {B x : Nat} {l : List Nat} (hx : x < B) (h : DigB B l) : DigB B (x :: l) := fun y hy => by
  rcases List.mem_cons.1 hy with rfl | hy
  · exact hx
  · exact h y hy
theorem DigB.tail {B x : Nat} {l : List Nat} (h : DigB B (x :: l)) : DigB B l := fun y hy => h y (List.mem_cons_of_mem _ hy)
theorem DigB.append {B : Nat} {l r : List Nat} (h : DigB B l) (k : DigB B r) : DigB B (l ++ r) := fun y hy => (List.mem_append.1 hy).elim (h y) (k y)
theorem DigB.left {B : Nat} {l r : List Nat} (h : DigB B (l ++ r)) : DigB B l := fun y hy => h y (List.mem_append_left _ hy)
theorem DigB.right {B : Nat} {l r : List Nat} (h : DigB B (l ++ r)) : DigB B r := fun y hy => h y (List.mem_append_right _ hy)
theorem leV_lt {B : Nat} : ∀ {l : List Nat}, DigB B l → leV B l < B ^ l.length
  | [], _ => by simp [leV]
  | x :: l, h => by
    have h1 := leV_lt h.tail
    have h2 := h x (List.mem_cons_self ..)
    simp only [leV, List.length_cons, Nat.pow_succ]
    have h3 : B * (leV B l + 1) ≤ B * B ^ l.length := Nat.mul_le_mul_left _ h1
    rw [Nat.mul_comm (B ^ l.length) B]
    rw [Nat.mul_add, Nat.mul_one] at h3
    omega
/-- Nothing stands in front that could be left out. -/
def Norm (l : List Nat) : Prop := l.getLast? ≠ some 0
theorem Norm.nil : Norm [] := by simp [Norm]
theorem Norm.snoc {l : List Nat} {x : Nat} (h : x ≠ 0) : Norm (l ++ [x]) := by simp [Norm, h]
theorem norm_cases (l : List Nat) : l = [] ∨ ∃ r x, l = r ++ [x] := by
  rcases List.eq_nil_or_concat l with h | ⟨r, x, h⟩
  · exact .inl h
  · exact .inr ⟨r, x, by simpa using h⟩
theorem Norm.last {l : List Nat} {x : Nat} (h : Norm (l ++ [x])) : x ≠ 0 := by simpa [Norm] using h
theorem norm_ge {B : Nat} (_hB : 2 ≤ B) {l : List Nat} {x : Nat} (h : Norm (l ++ [x])) : B ^ l.length ≤ leV B (l ++ [x]) := by
  rw [leV_snoc]
  have := h.last
  have h1 : B ^ l.length * 1 ≤ B ^ l.length * x := Nat.mul_le_mul_left _ (by omega)
  omega
theorem leV_pos {B : Nat} (hB : 2 ≤ B) {l : List Nat} (hn : Norm l) (h : l ≠ []) : 0 < leV B l := by
  rcases norm_cases l with rfl | ⟨r, x, rfl⟩
  · exact absurd rfl h
  · have := norm_ge hB hn
    have h2 : 0 < B ^ r.length := Nat.pow_pos (by omega)
    omega
theorem leV_eq_zero {B : Nat} (hB : 2 ≤ B) {l : List Nat} (hn : Norm l) : leV B l = 0 ↔ l = [] := by
  constructor
  · intro h
    rcases norm_cases l with rfl | ⟨r, x, rfl⟩
    · rfl
    · have := leV_pos hB hn (by simp)
      omega
  · rintro rfl; rfl
/-- A longer list is a greater number. -/
theorem leV_len_lt {B : Nat} (hB : 2 ≤ B) {a b : List Nat} (ha : DigB B a) (hb : Norm b) (h : a.length < b.length) : leV B a < leV B b := by
  rcases norm_cases b with rfl | ⟨r, x, rfl⟩
  · simp at h
  · have h1 := leV_lt ha
    have h2 := norm_ge hB hb
    have h3 : B ^ a.length ≤ B ^ r.length := Nat.pow_le_pow_right (by omega) (by simp at h; omega)
    omega
theorem leV_inj {B : Nat} (hB : 2 ≤ B) : ∀ {a b : List Nat}, DigB B a → DigB B b → a.length = b.length → leV B a = leV B b → a = b
  | [], [], _, _, _, _ => rfl
  | [], _ :: _, _, _, h, _ => by simp at h
  | _ :: _, [], _, _, h, _ => by simp at h
  | x :: a, y :: b, ha, hb, hl, hv => by
    have h1 := ha x (List.mem_cons_self ..)
    have h2 := hb y (List.mem_cons_self ..)
    simp only [leV] at hv
    have h3 : (x + B * leV B a) % B = (y + B * leV B b) % B := by rw [hv]
    rw [Nat.add_mul_mod_self_left, Nat.add_mul_mod_self_left, Nat.mod_eq_of_lt h1, Nat.mod_eq_of_lt h2] at h3
    subst h3
    have h4 : leV B a = leV B b := Nat.eq_of_mul_eq_mul_left (show 0 < B by omega) (by omega)
    rw [leV_inj hB ha.tail hb.tail (by simpa using hl) h4]
theorem leV_unique {B : Nat} (hB : 2 ≤ B) {a b : List Nat} (ha : DigB B a) (hb : DigB B b) (na : Norm a) (nb : Norm b) (h : leV B a = leV B b) : a = b := by
  rcases Nat.lt_trichotomy a.length b.length with hl | hl | hl
  · have := leV_len_lt hB ha nb hl; omega
  · exact leV_inj hB ha hb hl h
  · have := leV_len_lt hB hb na hl; omega
/-- The highest digits in which two lists of one length differ decide. -/
theorem leV_top {B : Nat} {a b t : List Nat} {x y : Nat} (ha : DigB B a) (hl : a.length = b.length) (h : x < y) : leV B (a ++ x :: t) < leV B (b ++ y :: t) := by
  rw [leV_append, leV_append, leV, leV, ← hl]
  have h1 := leV_lt ha
  have h2 : B ^ a.length * (x + B * leV B t) + B ^ a.length ≤ B ^ a.length * (y + B * leV B t) := by
    rw [← Nat.mul_succ]
    exact Nat.mul_le_mul_left _ (by omega)
  omega
/-- A list without zeros in front. -/
def trimL (l : List Nat) : List Nat := (l.reverse.dropWhile (· == 0)).reverse
theorem trimL_nil : trimL [] = [] := rfl
theorem trimL_zero (l : List Nat) : trimL (l ++ [0]) = trimL l := by simp [trimL]
theorem trimL_keep {l : List Nat} {x : Nat} (h : x ≠ 0) : trimL (l ++ [x]) = l ++ [x] := by simp [trimL, h]
theorem trimL_norm (l : List Nat) : Norm (trimL l) := by
  suffices h : ∀ n (l : List Nat), l.length ≤ n → Norm (trimL l) from h _ l (Nat.le_refl _)
  intro n
  induction n with
  | zero => intro l hl; have : l = [] := List.length_eq_zero_iff.1 (by omega); subst this; exact Norm.nil
  | succ n ih =>
    intro l hl
    rcases norm_cases l with rfl | ⟨r, x, rfl⟩
    · exact Norm.nil
    · by_cases h : x = 0
      · subst h; rw [trimL_zero]; exact ih r (by simp at hl; omega)
      · rw [trimL_keep h]; exact Norm.snoc h
theorem trimL_val (B : Nat) (l : List Nat) : leV B (trimL l) = leV B l := by
  suffices h : ∀ n (l : List Nat), l.length ≤ n → leV B (trimL l) = leV B l from h _ l (Nat.le_refl _)
  intro n
  induction n with
  | zero => intro l hl; have : l = [] := List.length_eq_zero_iff.1 (by omega); subst this; rfl
  | succ n ih =>
    intro l hl
    rcases norm_cases l with rfl | ⟨r, x, rfl⟩
    · rfl
    · by_cases h : x = 0
      · subst h; rw [trimL_zero, ih r (by simp at hl; omega), leV_snoc]; simp
      · rw [trimL_keep h]
theorem trimL_dig {B : Nat} {l : List Nat} (h : DigB B l) : DigB B (trimL l) := fun x hx => by
  refine h x ?_
  simp only [trimL, List.mem_reverse] at hx
  have := (List.dropWhile_sublist (· == 0)).subset hx
  simpa using this
theorem trimL_id {l : List Nat} (h : Norm l) : trimL l = l := by
  rcases norm_cases l with rfl | ⟨r, x, rfl⟩
  · rfl
  · exact trimL_keep h.last
/-- The digits of a number. -/
def digsL (B n : Nat) : List Nat := if _h : n = 0 ∨ B < 2 then [] else n % B :: digsL B (n / B)
  termination_by n
  decreasing_by exact Nat.div_lt_self (by omega) (by omega)
theorem digsL_zero (B : Nat) : digsL B 0 = [] := by rw [digsL, dif_pos (.inl rfl)]
theorem digsL_pos {B n : Nat} (hB : 2 ≤ B) (h : 0 < n) : digsL B n = n % B :: digsL B (n / B) := by rw [digsL, dif_neg (by omega)]
theorem digsL_spec {B : Nat} (hB : 2 ≤ B) (k : Nat) : ∀ n, n ≤ k → leV B (digsL B n) = n ∧ DigB B (digsL B n) ∧ Norm (digsL B n) := by
  induction k with
  | zero => intro n h; obtain rfl : n = 0 := by omega
            rw [digsL_zero]; exact ⟨rfl, DigB.nil _, Norm.nil⟩
  | succ k ih =>
    intro n h
    rcases Nat.eq_zero_or_pos n with rfl | h0
    · rw [digsL_zero]; exact ⟨rfl, DigB.nil _, Norm.nil⟩
    · have h1 : n / B < n := Nat.div_lt_self h0 (by omega)
      obtain ⟨i1, i2, i3⟩ := ih (n / B) (by omega)
      rw [digsL_pos hB h0]
      refine ⟨by rw [leV, i1]; exact Nat.mod_add_div n B, DigB.cons (Nat.mod_lt _ (by omega)) i2, ?_⟩
      rcases norm_cases (digsL B (n / B)) with h2 | ⟨r, x, h2⟩
      · rw [h2]
        have h3 : n / B = 0 := by rw [← i1, h2]; rfl
        have h4 : n % B = n := Nat.mod_eq_of_lt ((Nat.div_eq_zero_iff_lt (by omega)).1 h3)
        rw [h4]
        simp [Norm]; omega
      · rw [h2] at i3 ⊢
        rw [← List.cons_append]
        exact Norm.snoc i3.last
theorem leV_digsL {B : Nat} (hB : 2 ≤ B) (n : Nat) : leV B (digsL B n) = n := (digsL_spec hB n n (Nat.le_refl _)).1
theorem digsL_dig {B : Nat} (hB : 2 ≤ B) (n : Nat) : DigB B (digsL B n) := (digsL_spec hB n n (Nat.le_refl _)).2.1
theorem digsL_norm {B : Nat} (hB : 2 ≤ B) (n : Nat) : Norm (digsL B n) := (digsL_spec hB n n (Nat.le_refl _)).2.2
theorem digsL_leV {B : Nat} (hB : 2 ≤ B) {l : List Nat} (h : DigB B l) (hn : Norm l) : digsL B (leV B l) = l :=
  leV_unique hB (digsL_dig hB _) h (digsL_norm hB _) hn (leV_digsL hB _)
theorem digsL_len {B : Nat} (hB : 2 ≤ B) (n k : Nat) : (digsL B n).length ≤ k ↔ n < B ^ k := by
  constructor
  · intro h
    have h1 := leV_lt (digsL_dig hB n)
    rw [leV_digsL hB] at h1
    have h2 : B ^ (digsL B n).length ≤ B ^ k := Nat.pow_le_pow_right (by omega) h
    omega
  · intro h
    rcases Nat.lt_or_ge k (digsL B n).length with h1 | h1
    · rcases norm_cases (digsL B n) with h2 | ⟨r, x, h2⟩
      · rw [h2] at h1; simp at h1
      · have h3 := norm_ge hB (h2 ▸ digsL_norm hB n)
        rw [← h2, leV_digsL hB] at h3
        have h4 : B ^ k ≤ B ^ r.length := Nat.pow_le_pow_right (by omega) (by rw [h2] at h1; simp at h1; omega)
        omega
    · exact h1

/-- The bytes of a number in decimal notation. -/
def chr10 (d : Nat) : UInt8 := UInt8.ofNat (48 + d)
theorem chr10_toNat {d : Nat} (h : d < 10) : (chr10 d).toNat = 48 + d := by
  simp only [chr10, UInt8.toNat_ofNat']
  omega
def natT (n : Nat) : List UInt8 := if n = 0 then [48] else (digsL 10 n).reverse.map chr10
/-- The text of an integer. -/
def intT (z : Int) : List UInt8 := if z < 0 then 45 :: natT z.natAbs else natT z.natAbs
def intB (z : Int) : ByteArray := ⟨(intT z).toArray⟩
/-- What a text of digits stands for. -/
def decT (l : List UInt8) : List Nat := l.reverse.map fun c => c.toNat - 48
def natV (l : List UInt8) : Nat := leV 10 (decT l)
def intV (l : List UInt8) : Int := if l.head? = some 45 then - (natV l.tail : Int) else natV l
theorem decT_map {l : List Nat} (h : DigB 10 l) : decT (l.reverse.map chr10) = l := by
  rw [decT, ← List.map_reverse, List.reverse_reverse, List.map_map]
  conv => rhs; rw [← List.map_id l]
  apply List.map_congr_left
  intro x hx
  have := h x hx
  simp [chr10_toNat this]
theorem natT_val (n : Nat) : natV (natT n) = n := by
  unfold natT
  split
  · rename_i h; subst h; rfl
  · rw [natV, decT_map (digsL_dig (by decide) n), leV_digsL (by decide)]
/-- A digit. -/
def IsDig (c : UInt8) : Prop := 48 ≤ c.toNat ∧ c.toNat ≤ 57
theorem isDig_chr {d : Nat} (h : d < 10) : IsDig (chr10 d) := by rw [IsDig, chr10_toNat h]; omega
theorem natT_dig (n : Nat) : ∀ c ∈ natT n, IsDig c := by
  intro c hc
  unfold natT at hc
  split at hc
  · simp at hc; subst hc; exact ⟨by decide, by decide⟩
  · obtain ⟨d, hd, rfl⟩ := List.mem_map.1 hc
    exact isDig_chr (digsL_dig (by decide) n d (by simpa using hd))
theorem natT_ne (n : Nat) : natT n ≠ [] := by
  unfold natT
  split
  · simp
  · rename_i h
    intro h2
    have h3 : digsL 10 n = [] := by simpa using h2
    have := leV_digsL (B := 10) (by decide) n
    rw [h3] at this
    exact h this.symm
theorem natT_len (n k : Nat) (hk : 1 ≤ k) : (natT n).length ≤ k ↔ n < 10 ^ k := by
  unfold natT
  split
  · rename_i h; subst h
    have : 0 < 10 ^ k := Nat.pow_pos (by decide)
    simp; omega
  · rw [List.length_map, List.length_reverse]; exact digsL_len (by decide) n k
/-- The first digit of a number that is not 0 is not 0. -/
theorem natT_head {n : Nat} (h : n ≠ 0) : (natT n).head? ≠ some 48 := by
  unfold natT
  rw [if_neg h]
  have hn := digsL_norm (B := 10) (by decide) n
  have hd := digsL_dig (B := 10) (by decide) n
  rcases norm_cases (digsL 10 n) with h2 | ⟨r, x, h2⟩
  · rw [h2]; simp
  · rw [h2] at hn hd ⊢
    have h3 := hn.last
    have h4 := hd x (by simp)
    simp only [List.reverse_append, List.reverse_cons, List.reverse_nil, List.nil_append, List.cons_append, List.map_cons, List.head?_cons]
    intro h5
    have h6 : (chr10 x).toNat = (48 : UInt8).toNat := by rw [Option.some.inj h5]
    rw [chr10_toNat h4] at h6
    have : (48 : UInt8).toNat = 48 := rfl
    omega
/-- A text of digits with no zero in front is that of its number. -/
theorem natT_natV {l : List UInt8} (hd : ∀ c ∈ l, IsDig c) (h0 : l ≠ []) (hz : l = [48] ∨ l.head? ≠ some 48) : natT (natV l) = l := by
  have hdb : DigB 10 (decT l) := by
    intro x hx
    obtain ⟨c, hc, rfl⟩ := List.mem_map.1 hx
    have := hd c (by simpa using hc)
    unfold IsDig at this; omega
  rcases hz with rfl | hz
  · rfl
  · have hn : Norm (decT l) := by
      cases l with
      | nil => exact absurd rfl h0
      | cons c t =>
        have hc := hd c (List.mem_cons_self ..)
        have h1 : decT (c :: t) = decT t ++ [c.toNat - 48] := by simp [decT]
        rw [h1]
        refine Norm.snoc ?_
        intro h2
        apply hz
        have h3 : c.toNat = 48 := by unfold IsDig at hc; omega
        rw [List.head?_cons, show c = 48 from UInt8.toNat_inj.1 h3]
    have hne : natV l ≠ 0 := by
      intro h
      have h1 := (leV_eq_zero (by decide) hn).1 h
      have : l = [] := by simpa [decT] using h1
      exact h0 this
    unfold natT
    rw [if_neg hne, natV, digsL_leV (by decide) hdb hn, decT, ← List.map_reverse, List.reverse_reverse, List.map_map]
    conv => rhs; rw [← List.map_id l]
    apply List.map_congr_left
    intro c hc
    have h1 := hd c hc
    unfold IsDig at h1
    apply UInt8.toNat_inj.1
    show (chr10 (c.toNat - 48)).toNat = c.toNat
    rw [chr10_toNat (by omega)]; omega
theorem natT_inj {m n : Nat} (h : natT m = natT n) : m = n := by rw [← natT_val m, h, natT_val]
theorem natT_head_dig (n : Nat) : (natT n).head? ≠ some 45 := by
  have h := natT_ne n
  have hd := natT_dig n
  cases e : natT n with
  | nil => exact absurd e h
  | cons c t =>
    have := hd c (by rw [e]; exact List.mem_cons_self ..)
    intro h2
    rw [List.head?_cons] at h2
    have h3 := Option.some.inj h2
    subst h3
    unfold IsDig at this
    have : (45 : UInt8).toNat = 45 := rfl
    omega
theorem intT_val (z : Int) : intV (intT z) = z := by
  unfold intT
  split
  · rw [intV, if_pos (by simp), List.tail_cons, natT_val]; omega
  · rw [intV, if_neg (natT_head_dig _), natT_val]; omega
theorem intT_inj {a b : Int} (h : intT a = intT b) : a = b := by rw [← intT_val a, h, intT_val]
theorem intB_inj {a b : Int} (h : intB a = intB b) : a = b := by
  have h1 : (intB a).data.toList = (intB b).data.toList := by rw [h]
  exact intT_inj (by simpa [intB] using h1)
/-- A text that an integer may have, whatever its length. -/
def OkT (l : List UInt8) : Prop := (∀ c ∈ l, IsDig c) ∧ l ≠ [] ∧ (l = [48] ∨ l.head? ≠ some 48)
theorem okT_natT (n : Nat) : OkT (natT n) := ⟨natT_dig n, natT_ne n, by
  by_cases h : n = 0
  · subst h; exact .inl rfl
  · exact .inr (natT_head h)⟩
theorem okT_natV {l : List UInt8} (h : OkT l) : natT (natV l) = l := natT_natV h.1 h.2.1 h.2.2
end Putlog
