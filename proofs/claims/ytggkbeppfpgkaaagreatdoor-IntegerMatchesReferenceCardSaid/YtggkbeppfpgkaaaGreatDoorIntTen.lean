/- Plain mathematics of layer 3: sums, differences, products, quotients and roots digit by digit, as one learns them. Nothing of the program. -/
import Derived.Test.YtggkbeppfpgkaaaGreatDoorIntMag
namespace Putlog

theorem getD_far {l : List Nat} {k : Nat} (h : l.length ≤ k) : l.getD k 0 = 0 := by
  simp [List.getD_eq_getElem?_getD, List.getElem?_eq_none h]
theorem dig_getD {B : Nat} (hB : 0 < B) {l : List Nat} (h : DigB B l) (k : Nat) : l.getD k 0 < B := by
  rcases Nat.lt_or_ge k l.length with hk | hk
  · rw [List.getD_eq_getElem?_getD, List.getElem?_eq_getElem hk, Option.getD_some]; exact h _ (List.getElem_mem _)
  · rw [getD_far hk]; exact hB
theorem ten_take (l : List Nat) (k : Nat) : leV 10 (l.take (k + 1)) = leV 10 (l.take k) + 10 ^ k * l.getD k 0 := by
  rcases Nat.lt_or_ge k l.length with hk | hk
  · have h8 : l.take (k + 1) = l.take k ++ [l.getD k 0] := by rw [List.take_succ_eq_append_getElem hk]; simp [List.getD_eq_getElem?_getD, hk]
    have h9 : (l.take k).length = k := by simp; omega
    rw [h8, leV_snoc, h9]
  · rw [getD_far hk, List.take_of_length_le (by omega), List.take_of_length_le (by omega)]; simp
theorem ten_drop {l : List Nat} {k : Nat} (hk : k < l.length) : leV 10 (l.drop k) = l.getD k 0 + 10 * leV 10 (l.drop (k + 1)) := by
  rw [List.drop_eq_getElem_cons hk, leV]; simp [List.getD_eq_getElem?_getD, hk]
theorem ten_part (l : List Nat) (k : Nat) : leV 10 (l.take k) ≤ leV 10 l := by
  have h := leV_append 10 (l.take k) (l.drop k)
  rw [List.take_append_drop] at h; omega
theorem ten_top {l : List Nat} (hn : Norm l) {k : Nat} (hk : k < l.length) : 10 ^ k ≤ leV 10 l := by
  rcases norm_cases l with rfl | ⟨r, x, rfl⟩
  · simp at hk
  · have h1 := norm_ge (B := 10) (by decide) hn
    have h2 : 10 ^ k ≤ 10 ^ r.length := Nat.pow_le_pow_right (by decide) (by simp at hk; omega)
    omega
theorem ten_set : ∀ (l : List Nat) (i v : Nat), i < l.length → leV 10 (l.set i v) + 10 ^ i * l.getD i 0 = leV 10 l + 10 ^ i * v
  | [], _, _, h => by simp at h
  | x :: l, 0, v, _ => by simp [leV]; omega
  | x :: l, i + 1, v, h => by
    have := ten_set l i v (by simpa using h)
    simp only [List.set_cons_succ, leV, List.getD_cons_succ, Nat.pow_succ]
    rw [Nat.mul_comm (10 ^ i) 10, Nat.mul_assoc, Nat.mul_assoc]; omega
theorem ten_digset {B : Nat} {l : List Nat} (h : DigB B l) (i : Nat) {v : Nat} (hv : v < B) : DigB B (l.set i v) := fun y hy => by
  rcases List.mem_or_eq_of_mem_set hy with hy | hy
  · exact h y hy
  · subst hy; exact hv
theorem setN_get (l : List Nat) (i j v : Nat) (hi : i < l.length) : (l.set i v).getD j 0 = if j = i then v else l.getD j 0 := by
  simp only [List.getD_eq_getElem?_getD, List.getElem?_set]
  by_cases h : i = j
  · subst h; simp [hi]
  · rw [if_neg h, if_neg (fun e => h e.symm)]
theorem digs_of {l : List Nat} {n : Nat} (hd : DigB 10 l) (hn : Norm l) (hv : leV 10 l = n) : l = digsL 10 n := by
  rw [← hv, digsL_leV (by decide) hd hn]
theorem digs_trim {l : List Nat} {n : Nat} (hd : DigB 10 l) (hv : leV 10 l = n) : trimL l = digsL 10 n :=
  digs_of (trimL_dig hd) (trimL_norm l) (by rw [trimL_val]; exact hv)
theorem norm_of_ge {l : List Nat} (hd : DigB 10 l) (h : l = [] ∨ 10 ^ (l.length - 1) ≤ leV 10 l) : Norm l := by
  rcases norm_cases l with rfl | ⟨r, x, rfl⟩
  · exact Norm.nil
  · rcases h with h | h
    · simp at h
    · refine Norm.snoc fun hx => ?_
      subst hx
      rw [leV_snoc] at h
      have := leV_lt hd.left
      simp at h; omega

/-- A sum under way: k digits, and a carry. -/
def PlusT (A B : List Nat) (k : Nat) (out : List Nat) (c : Nat) : Prop :=
  out.length = k ∧ DigB 10 out ∧ leV 10 out + 10 ^ k * c = leV 10 (A.take k) + leV 10 (B.take k) ∧ c ≤ 1 ∧ (k = 0 ∨ 10 ^ (k - 1) ≤ leV 10 A + leV 10 B) ∧ (k ≤ A.length + B.length ∨ (k = A.length + B.length + 1 ∧ c = 0))
theorem PlusT.start (A B : List Nat) : PlusT A B 0 [] 0 := ⟨rfl, DigB.nil _, by simp [leV], by omega, .inl rfl, .inl (by omega)⟩
theorem PlusT.step {A B : List Nat} {k : Nat} {out : List Nat} {c : Nat} (h : PlusT A B k out c) (hA : DigB 10 A) (hB : DigB 10 B) (nA : Norm A) (nB : Norm B) (hgo : k < A.length ∨ k < B.length ∨ 0 < c) :
    PlusT A B (k + 1) (out ++ [(c + A.getD k 0 + B.getD k 0) % 10]) ((c + A.getD k 0 + B.getD k 0) / 10) := by
  obtain ⟨h1, h2, h3, h4, h5, h6⟩ := h
  have ha := dig_getD (by decide) hA k
  have hb := dig_getD (by decide) hB k
  refine ⟨by simp [h1], h2.append (DigB.cons (Nat.mod_lt _ (by decide)) (DigB.nil _)), ?_, by omega, .inr ?_, ?_⟩
  · rw [leV_snoc, h1, ten_take, ten_take, Nat.pow_succ, Nat.mul_assoc]
    have h7 := Nat.mod_add_div (c + A.getD k 0 + B.getD k 0) 10
    have h8 : 10 ^ k * ((c + A.getD k 0 + B.getD k 0) % 10) + 10 ^ k * (10 * ((c + A.getD k 0 + B.getD k 0) / 10)) = 10 ^ k * c + 10 ^ k * A.getD k 0 + 10 ^ k * B.getD k 0 := by
      rw [← Nat.mul_add, h7, Nat.mul_add, Nat.mul_add]
    omega
  · rw [Nat.add_sub_cancel]
    rcases hgo with hgo | hgo | hgo
    · have := ten_top nA hgo; omega
    · have := ten_top nB hgo; omega
    · have h7 := ten_part A k
      have h8 := ten_part B k
      have h9 : 10 ^ k * 1 ≤ 10 ^ k * c := Nat.mul_le_mul_left _ hgo
      omega
  · rcases h6 with h6 | ⟨h6, h7⟩
    · rcases Nat.lt_or_ge k (A.length + B.length) with h8 | h8
      · exact .inl (by omega)
      · have e1 := getD_far (l := A) (k := k) (by omega)
        have e2 := getD_far (l := B) (k := k) (by omega)
        refine .inr ⟨by omega, by rw [e1, e2]; omega⟩
    · omega
theorem PlusT.done {A B : List Nat} {k : Nat} {out : List Nat} (h : PlusT A B k out 0) (hA : A.length ≤ k) (hB : B.length ≤ k) : out = digsL 10 (leV 10 A + leV 10 B) := by
  obtain ⟨h1, h2, h3, _, h5, _⟩ := h
  rw [List.take_of_length_le hA, List.take_of_length_le hB] at h3
  refine digs_of h2 (norm_of_ge h2 ?_) (by omega)
  rcases h5 with h5 | h5
  · subst h5; exact .inl (List.length_eq_zero_iff.1 h1)
  · rw [h1]; exact .inr (by omega)
theorem PlusT.small {A B : List Nat} {k : Nat} {out : List Nat} {c : Nat} (h : PlusT A B k out c) (hgo : k < A.length ∨ k < B.length ∨ 0 < c) : k ≤ A.length + B.length := by
  obtain ⟨_, _, _, _, _, h6⟩ := h
  omega

/-- A difference under way. -/
def MinusT (A B : List Nat) (k : Nat) (out : List Nat) (c : Nat) : Prop :=
  out.length = k ∧ DigB 10 out ∧ leV 10 (A.take k) + 10 ^ k * c = leV 10 out + leV 10 (B.take k) ∧ c ≤ 1
theorem MinusT.start (A B : List Nat) : MinusT A B 0 [] 0 := ⟨rfl, DigB.nil _, by simp [leV], by omega⟩
theorem MinusT.low {A B : List Nat} {k : Nat} {out : List Nat} {c : Nat} (h : MinusT A B k out c) (hA : DigB 10 A) (hlt : A.getD k 0 < c + B.getD k 0) :
    MinusT A B (k + 1) (out ++ [A.getD k 0 + 10 - (c + B.getD k 0)]) 1 ∨ 10 ≤ B.getD k 0 := by
  rcases Nat.lt_or_ge (B.getD k 0) 10 with hb | hb
  · left
    obtain ⟨h1, h2, h3, h4⟩ := h
    have ha := dig_getD (by decide) hA k
    obtain ⟨d, hd⟩ : ∃ d, d = A.getD k 0 + 10 - (c + B.getD k 0) := ⟨_, rfl⟩
    have hd2 : d + c + B.getD k 0 = A.getD k 0 + 10 := by omega
    rw [← hd]
    refine ⟨by simp [h1], h2.append (DigB.cons (by omega) (DigB.nil _)), ?_, by omega⟩
    rw [leV_snoc, h1, ten_take, ten_take, Nat.pow_succ]
    have h8 : 10 ^ k * d + 10 ^ k * c + 10 ^ k * B.getD k 0 = 10 ^ k * A.getD k 0 + 10 ^ k * 10 := by
      rw [← Nat.mul_add, ← Nat.mul_add, ← Nat.mul_add, hd2]
    omega
  · exact .inr hb
theorem MinusT.high {A B : List Nat} {k : Nat} {out : List Nat} {c : Nat} (h : MinusT A B k out c) (hA : DigB 10 A) (hge : c + B.getD k 0 ≤ A.getD k 0) :
    MinusT A B (k + 1) (out ++ [A.getD k 0 - (c + B.getD k 0)]) 0 := by
  obtain ⟨h1, h2, h3, h4⟩ := h
  have ha := dig_getD (by decide) hA k
  obtain ⟨d, hd⟩ : ∃ d, d = A.getD k 0 - (c + B.getD k 0) := ⟨_, rfl⟩
  have hd2 : d + c + B.getD k 0 = A.getD k 0 := by omega
  rw [← hd]
  refine ⟨by simp [h1], h2.append (DigB.cons (by omega) (DigB.nil _)), ?_, by omega⟩
  rw [leV_snoc, h1, ten_take, ten_take]
  have h8 : 10 ^ k * d + 10 ^ k * c + 10 ^ k * B.getD k 0 = 10 ^ k * A.getD k 0 := by
    rw [← Nat.mul_add, ← Nat.mul_add, hd2]
  omega
theorem MinusT.done {A B : List Nat} {out : List Nat} {c : Nat} (h : MinusT A B A.length out c) (hA : DigB 10 A) (nB : Norm B) (hle : leV 10 B ≤ leV 10 A) : trimL out = digsL 10 (leV 10 A - leV 10 B) := by
  obtain ⟨h1, h2, h3, h4⟩ := h
  have hl : B.length ≤ A.length := by
    rcases Nat.lt_or_ge A.length B.length with hl | hl
    · have := leV_len_lt (by decide) hA nB hl; omega
    · exact hl
  rw [List.take_of_length_le (Nat.le_refl _), List.take_of_length_le hl] at h3
  have h5 := leV_lt h2
  rw [h1] at h5
  have hc : c = 0 := by
    rcases Nat.eq_zero_or_pos c with h6 | h6
    · exact h6
    · have h7 : 10 ^ A.length * 1 ≤ 10 ^ A.length * c := Nat.mul_le_mul_left _ h6
      omega
  subst hc
  exact digs_trim h2 (by omega)

/-- A product under way. -/
def TimesT (A B : List Nat) (i k : Nat) (C : List Nat) (c : Nat) : Prop :=
  C.length = A.length + B.length ∧ DigB 10 C ∧ leV 10 C + 10 ^ (i + k) * c = leV 10 (A.take i) * leV 10 B + 10 ^ i * A.getD i 0 * leV 10 (B.take k) ∧ c ≤ 9
theorem TimesT.start (A B : List Nat) : TimesT A B 0 0 (List.replicate (A.length + B.length) 0) 0 := by
  refine ⟨List.length_replicate, fun x hx => ?_, by simp [leV_zeros, leV], by omega⟩
  obtain ⟨_, rfl⟩ := List.mem_replicate.1 hx; decide
theorem TimesT.place {A B : List Nat} {i k : Nat} {C : List Nat} {c : Nat} (h : TimesT A B i k C c) (hA : DigB 10 A) (hB : DigB 10 B) (hi : i < A.length) (hgo : k < B.length ∨ 0 < c) : i + k < A.length + B.length := by
  rcases hgo with hgo | hgo
  · omega
  · obtain ⟨h1, h2, h3, _⟩ := h
    refine Nat.not_le.1 fun hk => ?_
    have e1 : 10 ^ (i + k) * 1 ≤ 10 ^ (i + k) * c := Nat.mul_le_mul_left _ hgo
    have e2 : 10 ^ (A.length + B.length) ≤ 10 ^ (i + k) := Nat.pow_le_pow_right (by decide) hk
    have e3 := ten_part B k
    have e4 := leV_lt hB
    have e5 : leV 10 (A.take (i + 1)) < 10 ^ A.length := Nat.lt_of_le_of_lt (ten_part A _) (leV_lt hA)
    rw [ten_take] at e5
    have e6 : 10 ^ i * A.getD i 0 * leV 10 (B.take k) ≤ 10 ^ i * A.getD i 0 * leV 10 B := Nat.mul_le_mul_left _ e3
    have e7 : (leV 10 (A.take i) + 10 ^ i * A.getD i 0) * leV 10 B < 10 ^ A.length * 10 ^ B.length := Nat.mul_lt_mul_of_lt_of_le e5 (Nat.le_of_lt e4) (Nat.pow_pos (by decide))
    rw [Nat.add_mul, ← Nat.pow_add] at e7
    omega
theorem TimesT.step {A B : List Nat} {i k : Nat} {C : List Nat} {c : Nat} (h : TimesT A B i k C c) (hA : DigB 10 A) (hB : DigB 10 B) (hi : i + k < A.length + B.length) :
    TimesT A B i (k + 1) (C.set (i + k) ((C.getD (i + k) 0 + c + A.getD i 0 * B.getD k 0) % 10)) ((C.getD (i + k) 0 + c + A.getD i 0 * B.getD k 0) / 10) := by
  obtain ⟨h1, h2, h3, h4⟩ := h
  have hs := ten_set C (i + k) ((C.getD (i + k) 0 + c + A.getD i 0 * B.getD k 0) % 10) (by omega)
  have hc := dig_getD (by decide) h2 (i + k)
  have ha := dig_getD (by decide) hA i
  have hb := dig_getD (by decide) hB k
  have hm : A.getD i 0 * B.getD k 0 ≤ 9 * 9 := Nat.mul_le_mul (by omega) (by omega)
  refine ⟨by rw [List.length_set]; exact h1, ten_digset h2 _ (Nat.mod_lt _ (by decide)), ?_, by omega⟩
  rw [ten_take, Nat.mul_add]
  have e1 : 10 ^ i * A.getD i 0 * (10 ^ k * B.getD k 0) = 10 ^ (i + k) * (A.getD i 0 * B.getD k 0) := by
    rw [Nat.pow_add]; simp only [Nat.mul_assoc, Nat.mul_left_comm]
  have e2 : 10 ^ (i + (k + 1)) = 10 ^ (i + k) * 10 := by rw [← Nat.add_assoc, Nat.pow_succ]
  rw [e1, e2, Nat.mul_assoc]
  generalize A.getD i 0 * B.getD k 0 = p at *
  generalize C.getD (i + k) 0 = x at *
  have e3 := Nat.mod_add_div (x + c + p) 10
  have e4 : 10 ^ (i + k) * ((x + c + p) % 10) + 10 ^ (i + k) * (10 * ((x + c + p) / 10)) = 10 ^ (i + k) * x + 10 ^ (i + k) * c + 10 ^ (i + k) * p := by
    rw [← Nat.mul_add, e3, Nat.mul_add, Nat.mul_add]
  omega
theorem TimesT.next {A B : List Nat} {i k : Nat} {C : List Nat} (h : TimesT A B i k C 0) (hk : B.length ≤ k) : TimesT A B (i + 1) 0 C 0 := by
  obtain ⟨h1, h2, h3, h4⟩ := h
  refine ⟨h1, h2, ?_, h4⟩
  rw [List.take_of_length_le hk] at h3
  rw [ten_take, Nat.add_mul]
  simp only [List.take_zero, leV, Nat.mul_zero, Nat.add_zero] at h3 ⊢
  omega
theorem TimesT.done {A B : List Nat} {i : Nat} {C : List Nat} (h : TimesT A B i 0 C 0) (hi : A.length ≤ i) : trimL C = digsL 10 (leV 10 A * leV 10 B) := by
  obtain ⟨h1, h2, h3, _⟩ := h
  rw [List.take_of_length_le hi] at h3
  simp only [List.take_zero, leV, Nat.mul_zero, Nat.add_zero] at h3
  exact digs_trim h2 h3

/-- A quotient under way: the digits from i up are found. -/
def DivT (A : List Nat) (y i : Nat) (Q : List Nat) (R : Nat) : Prop :=
  Q.length = A.length ∧ DigB 10 Q ∧ (∀ j, j < i → Q.getD j 0 = 0) ∧ leV 10 (A.drop i) * 10 ^ i = leV 10 Q * y + 10 ^ i * R ∧ R < y
theorem DivT.start (A : List Nat) {y : Nat} (hy : 0 < y) : DivT A y A.length (List.replicate A.length 0) 0 := by
  refine ⟨List.length_replicate, fun x hx => ?_, fun j hj => by simp [List.getD_eq_getElem?_getD, hj], by simp [leV_zeros, leV], hy⟩
  obtain ⟨_, rfl⟩ := List.mem_replicate.1 hx; decide
/-- One digit under way. -/
def DivI (A : List Nat) (y i : Nat) (Q : List Nat) (R : Nat) : Prop :=
  Q.length = A.length ∧ DigB 10 Q ∧ (∀ j, j < i → Q.getD j 0 = 0) ∧ leV 10 (A.drop i) * 10 ^ i = leV 10 Q * y + 10 ^ i * R ∧ Q.getD i 0 * y + R < 10 * y
theorem DivT.open {A : List Nat} {y i : Nat} {Q : List Nat} {R : Nat} (h : DivT A y (i + 1) Q R) (hA : DigB 10 A) (hi : i < A.length) : DivI A y i Q (A.getD i 0 + 10 * R) := by
  obtain ⟨h1, h2, h3, h4, h5⟩ := h
  refine ⟨h1, h2, fun j hj => h3 j (by omega), ?_, ?_⟩
  · rw [ten_drop hi, Nat.add_mul]
    rw [Nat.pow_succ] at h4
    have e1 : leV 10 (A.drop (i + 1)) * (10 ^ i * 10) = 10 * leV 10 (A.drop (i + 1)) * 10 ^ i := by rw [← Nat.mul_assoc, Nat.mul_comm _ 10, Nat.mul_assoc]
    have e2 : 10 ^ i * 10 * R = 10 ^ i * (10 * R) := Nat.mul_assoc _ _ _
    rw [Nat.mul_add, Nat.mul_comm (A.getD i 0) (10 ^ i)]
    omega
  · rw [h3 i (by omega)]
    have := dig_getD (by decide) hA i
    omega
theorem DivI.digit {A : List Nat} {y i : Nat} {Q : List Nat} {R : Nat} (h : DivI A y i Q R) (hR : y ≤ R) : Q.getD i 0 < 9 := by
  obtain ⟨_, _, _, _, h5⟩ := h
  refine Nat.not_le.1 fun hk => ?_
  have : 9 * y ≤ Q.getD i 0 * y := Nat.mul_le_mul_right _ hk
  omega
theorem DivI.step {A : List Nat} {y i : Nat} {Q : List Nat} {R : Nat} (h : DivI A y i Q R) (hi : i < A.length) (hR : y ≤ R) : DivI A y i (Q.set i (Q.getD i 0 + 1)) (R - y) := by
  have h9 := h.digit hR
  obtain ⟨h1, h2, h3, h4, h5⟩ := h
  have hs := ten_set Q i (Q.getD i 0 + 1) (by omega)
  refine ⟨by rw [List.length_set]; exact h1, ten_digset h2 _ (by omega), fun j hj => ?_, ?_, ?_⟩
  · rw [setN_get Q i j _ (by omega), if_neg (by omega)]; exact h3 j hj
  · have e1 : leV 10 (Q.set i (Q.getD i 0 + 1)) = leV 10 Q + 10 ^ i := by rw [Nat.mul_add, Nat.mul_one] at hs; omega
    rw [e1, Nat.add_mul, h4]
    have e2 : 10 ^ i * R = 10 ^ i * y + 10 ^ i * (R - y) := by rw [← Nat.mul_add]; congr 1; omega
    omega
  · rw [setN_get Q i i _ (by omega), if_pos rfl, Nat.add_mul, Nat.one_mul]; omega
theorem DivI.close {A : List Nat} {y i : Nat} {Q : List Nat} {R : Nat} (h : DivI A y i Q R) (hR : R < y) : DivT A y i Q R := by
  obtain ⟨h1, h2, h3, h4, _⟩ := h
  exact ⟨h1, h2, h3, h4, hR⟩
theorem DivT.done {A : List Nat} {y : Nat} {Q : List Nat} {R : Nat} (h : DivT A y 0 Q R) : trimL Q = digsL 10 (leV 10 A / y) ∧ R = leV 10 A % y := by
  obtain ⟨h1, h2, _, h4, h5⟩ := h
  simp only [List.drop_zero, Nat.pow_zero, Nat.mul_one, Nat.one_mul] at h4
  have e1 : leV 10 A / y = leV 10 Q := by
    rw [h4, Nat.mul_comm, Nat.mul_add_div (by omega), Nat.div_eq_of_lt h5]; omega
  have e2 : leV 10 A % y = R := by rw [h4, Nat.mul_comm, Nat.mul_add_mod, Nat.mod_eq_of_lt h5]
  exact ⟨by rw [e1]; exact digs_trim h2 rfl, e2.symm⟩

/-- A root under way: the digits from i up are found. -/
def RootT (n h i : Nat) (O : List Nat) : Prop :=
  O.length = h ∧ DigB 10 O ∧ (∀ j, j < i → O.getD j 0 = 0) ∧ leV 10 O * leV 10 O ≤ n ∧ n < (leV 10 O + 10 ^ i) * (leV 10 O + 10 ^ i)
theorem RootT.start {n L : Nat} (hn : n < 10 ^ L) {h : Nat} (hh : L ≤ 2 * h) : RootT n h h (List.replicate h 0) := by
  refine ⟨List.length_replicate, fun x hx => ?_, fun j hj => by simp [List.getD_eq_getElem?_getD, hj], by rw [leV_zeros]; omega, ?_⟩
  · obtain ⟨_, rfl⟩ := List.mem_replicate.1 hx; decide
  · rw [leV_zeros, Nat.zero_add, ← Nat.pow_add]
    have : 10 ^ L ≤ 10 ^ (h + h) := Nat.pow_le_pow_right (by decide) (by omega)
    omega
/-- One digit under way: d is tried. -/
def RootI (n h i : Nat) (d : Nat) (O : List Nat) : Prop :=
  O.length = h ∧ DigB 10 O ∧ (∀ j, j < i → O.getD j 0 = 0) ∧ O.getD i 0 = d ∧ 10 ^ i * d ≤ leV 10 O ∧ (leV 10 O - 10 ^ i * d) * (leV 10 O - 10 ^ i * d) ≤ n ∧ n < (leV 10 O + 10 ^ i) * (leV 10 O + 10 ^ i)
theorem RootT.open {n h i : Nat} {O : List Nat} (H : RootT n h (i + 1) O) (hi : i < h) : RootI n h i 9 (O.set i 9) := by
  obtain ⟨h1, h2, h3, h4, h5⟩ := H
  have hs := ten_set O i 9 (by omega)
  rw [h3 i (by omega), Nat.mul_zero, Nat.add_zero] at hs
  refine ⟨by rw [List.length_set]; exact h1, ten_digset h2 _ (by decide), fun j hj => ?_, ?_, by omega, ?_, ?_⟩
  · rw [setN_get O i j _ (by omega), if_neg (by omega)]; exact h3 j (by omega)
  · rw [setN_get O i i _ (by omega), if_pos rfl]
  · rw [hs, Nat.add_sub_cancel]; exact h4
  · rw [hs]
    have : leV 10 O + 10 ^ i * 9 + 10 ^ i = leV 10 O + 10 ^ (i + 1) := by rw [Nat.pow_succ]; omega
    rw [this]; exact h5
theorem RootI.step {n h i d : Nat} {O : List Nat} (H : RootI n h i d O) (hi : i < h) (hd : 0 < d) (hgt : n < leV 10 O * leV 10 O) : RootI n h i (d - 1) (O.set i (d - 1)) := by
  obtain ⟨h1, h2, h3, h4, h5, h6, h7⟩ := H
  have hs := ten_set O i (d - 1) (by omega)
  rw [h4] at hs
  have hd9 := dig_getD (by decide) h2 i
  obtain ⟨e, rfl⟩ : ∃ e, d = e + 1 := ⟨d - 1, by omega⟩
  rw [Nat.add_sub_cancel] at hs ⊢
  have e1 : 10 ^ i * (e + 1) = 10 ^ i * e + 10 ^ i := by rw [Nat.mul_add, Nat.mul_one]
  rw [e1] at hs h5 h6
  refine ⟨by rw [List.length_set]; exact h1, ten_digset h2 _ (by omega), fun j hj => ?_, ?_, by omega, ?_, ?_⟩
  · rw [setN_get O i j _ (by omega), if_neg (by omega)]; exact h3 j (by omega)
  · rw [setN_get O i i _ (by omega), if_pos rfl]
  · have : leV 10 (O.set i e) - 10 ^ i * e = leV 10 O - (10 ^ i * e + 10 ^ i) := by omega
    rw [this]; exact h6
  · have : leV 10 (O.set i e) + 10 ^ i = leV 10 O := by omega
    rw [this]; exact hgt
theorem RootI.close {n h i d : Nat} {O : List Nat} (H : RootI n h i d O) (hle : d = 0 ∨ leV 10 O * leV 10 O ≤ n) : RootT n h i O := by
  obtain ⟨h1, h2, h3, h4, h5, h6, h7⟩ := H
  refine ⟨h1, h2, h3, ?_, h7⟩
  rcases hle with rfl | hle
  · simpa using h6
  · exact hle
theorem RootT.done {n h : Nat} {O : List Nat} (H : RootT n h 0 O) : trimL O = digsL 10 (sqrtN n) := by
  obtain ⟨_, h2, _, h4, h5⟩ := H
  exact digs_trim h2 (sqrtN_unique h4 h5)
end Putlog
