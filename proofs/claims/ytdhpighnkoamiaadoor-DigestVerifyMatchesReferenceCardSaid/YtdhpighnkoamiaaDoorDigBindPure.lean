/- Plain mathematics of layer 2: whoever proves two things has found two strings with the same digest. -/
import Derived.Test.YtdhpighnkoamiaaDoorDigFacts
namespace Putlog

theorem app_inj {c v x v' x' : ByteArray} (h : c ++ v ++ x = c ++ v' ++ x') (hs : v.size = v'.size) : v = v' ∧ x = x' := by
  have h1 : (c ++ v ++ x).data.toList = (c ++ v' ++ x').data.toList := by rw [h]
  simp only [ByteArray.data_append, Array.toList_append, List.append_assoc] at h1
  have h2 := List.append_cancel_left h1
  have h3 := List.append_inj h2 (by rw [Array.length_toList, Array.length_toList]; exact hs)
  exact ⟨ByteArray.ext (Array.toList_inj.1 h3.1), ByteArray.ext (Array.toList_inj.1 h3.2)⟩
theorem app_inj_one {c x x' : ByteArray} (h : c ++ x = c ++ x') : x = x' := by
  have h1 : (c ++ x).data.toList = (c ++ x').data.toList := by rw [h]
  simp only [ByteArray.data_append, Array.toList_append] at h1
  exact ByteArray.ext (Array.toList_inj.1 (List.append_cancel_left h1))
/-- Two different strings with the same place and the same digest. -/
def Coll (a b : List ByteArray) : Prop := ∃ j, j < a.length ∧ j < b.length ∧ getB a j ≠ getB b j ∧ shaB (getB a j) = shaB (getB b j)
theorem getB_cons (x : ByteArray) (a : List ByteArray) (j : Nat) : getB (x :: a) (j + 1) = getB a j := by simp [getB]
theorem getB_zero (x : ByteArray) (a : List ByteArray) : getB (x :: a) 0 = x := by simp [getB]
theorem Coll.cons {a b : List ByteArray} (x y : ByteArray) (h : Coll a b) : Coll (x :: a) (y :: b) := by
  obtain ⟨j, h1, h2, h3, h4⟩ := h
  exact ⟨j + 1, by simpa using h1, by simpa using h2, by rw [getB_cons, getB_cons]; exact h3, by rw [getB_cons, getB_cons]; exact h4⟩
theorem Coll.head {x y : ByteArray} (a b : List ByteArray) (h : x ≠ y) (hs : shaB x = shaB y) : Coll (x :: a) (y :: b) :=
  ⟨0, by simp, by simp, by rw [getB_zero, getB_zero]; exact h, by rw [getB_zero, getB_zero]; exact hs⟩

/-- The strings of which digests are computed for a proof, from the root on, and the value. -/
def wayS (ps : Nat → ByteArray) (s : ByteArray) (n i m : Nat) : List ByteArray × ByteArray :=
  if h : n ≤ 1 then ([(⟨#[0]⟩ : ByteArray) ++ s], leafB s)
  else if m = 0 then ([(⟨#[0]⟩ : ByteArray) ++ s], leafB s)
  else if i < half n then (((⟨#[1]⟩ : ByteArray) ++ (wayS ps s (half n) i (m - 1)).2 ++ ps (m - 1)) :: (wayS ps s (half n) i (m - 1)).1, nodeB (wayS ps s (half n) i (m - 1)).2 (ps (m - 1)))
  else (((⟨#[1]⟩ : ByteArray) ++ ps (m - 1) ++ (wayS ps s (n - half n) (i - half n) (m - 1)).2) :: (wayS ps s (n - half n) (i - half n) (m - 1)).1, nodeB (ps (m - 1)) (wayS ps s (n - half n) (i - half n) (m - 1)).2)
  termination_by n
  decreasing_by
  all_goals first | exact half_lt (by omega) | (have := half_pos n; omega)
theorem wayS_one {ps : Nat → ByteArray} {s : ByteArray} {n i m : Nat} (h : n ≤ 1) : wayS ps s n i m = ([(⟨#[0]⟩ : ByteArray) ++ s], leafB s) := by rw [wayS, dif_pos h]
theorem wayS_nil {ps : Nat → ByteArray} {s : ByteArray} {n i : Nat} : wayS ps s n i 0 = ([(⟨#[0]⟩ : ByteArray) ++ s], leafB s) := by
  rw [wayS]
  split
  · rfl
  · rw [if_pos rfl]
theorem wayS_left {ps : Nat → ByteArray} {s : ByteArray} {n i m : Nat} (h : 2 ≤ n) (hi : i < half n) :
    wayS ps s n i (m + 1) = (((⟨#[1]⟩ : ByteArray) ++ (wayS ps s (half n) i m).2 ++ ps m) :: (wayS ps s (half n) i m).1, nodeB (wayS ps s (half n) i m).2 (ps m)) := by
  rw [wayS, dif_neg (by omega), if_neg (by omega), if_pos hi]; rfl
theorem wayS_right {ps : Nat → ByteArray} {s : ByteArray} {n i m : Nat} (h : 2 ≤ n) (hi : half n ≤ i) :
    wayS ps s n i (m + 1) = (((⟨#[1]⟩ : ByteArray) ++ ps m ++ (wayS ps s (n - half n) (i - half n) m).2) :: (wayS ps s (n - half n) (i - half n) m).1, nodeB (ps m) (wayS ps s (n - half n) (i - half n) m).2) := by
  rw [wayS, dif_neg (by omega), if_neg (by omega), if_neg (by omega)]; rfl
theorem wayS_size (ps : Nat → ByteArray) (s : ByteArray) (n i m : Nat) : (wayS ps s n i m).2.size = 32 := by
  rw [wayS]
  split
  · exact shaB_size _
  · split
    · exact shaB_size _
    · split <;> exact shaB_size _
theorem wayS_len (ps : Nat → ByteArray) (s : ByteArray) (m : Nat) : ∀ n i, 1 ≤ (wayS ps s n i m).1.length ∧ (wayS ps s n i m).1.length ≤ m + 1 := by
  induction m with
  | zero => intro n i; rw [wayS_nil]; simp
  | succ m ih =>
    intro n i
    rcases Nat.lt_or_ge n 2 with h2 | h2
    · rw [wayS_one (by omega)]; simp
    · rcases Nat.lt_or_ge i (half n) with h5 | h5
      · rw [wayS_left h2 h5]; have := ih (half n) i; simp; omega
      · rw [wayS_right h2 h5]; have := ih (n - half n) (i - half n); simp; omega
theorem way_value (ps : Nat → ByteArray) (s : ByteArray) (k : Nat) : ∀ n i m, n ≤ k → (valueS ps s n i m).2 = true → (wayS ps s n i m).2 = (valueS ps s n i m).1 := by
  induction k with
  | zero => intro n i m h _; rw [wayS_one (by omega), valueS_one (by omega)]
  | succ k ih =>
    intro n i m h hv
    rcases Nat.lt_or_ge n 2 with h2 | h2
    · rw [wayS_one (by omega), valueS_one (by omega)]
    · have h3 := half_pos n
      have h4 := half_lt h2
      cases m with
      | zero => rw [valueS_nil h2] at hv; cases hv
      | succ m =>
        rcases Nat.lt_or_ge i (half n) with h5 | h5
        · rw [valueS_left h2 h5] at hv ⊢
          rw [wayS_left h2 h5, ← ih (half n) i m (by omega) hv]
        · rw [valueS_right h2 h5] at hv ⊢
          rw [wayS_right h2 h5, ← ih (n - half n) (i - half n) m (by omega) hv]
theorem way_binds (ps qs : Nat → ByteArray) (s t : ByteArray) (hne : s ≠ t) (k : Nat) : ∀ n i m q, n ≤ k → (valueS ps s n i m).2 = true → (valueS qs t n i q).2 = true → (wayS ps s n i m).2 = (wayS qs t n i q).2 → Coll (wayS ps s n i m).1 (wayS qs t n i q).1 := by
  have hone : ∀ n i m q, n ≤ 1 → (wayS ps s n i m).2 = (wayS qs t n i q).2 → Coll (wayS ps s n i m).1 (wayS qs t n i q).1 := by
    intro n i m q h he
    rw [wayS_one h, wayS_one h] at he ⊢
    exact Coll.head _ _ (fun e => hne (app_inj_one e)) he
  induction k with
  | zero => intro n i m q h _ _ he; exact hone n i m q (by omega) he
  | succ k ih =>
    intro n i m q h hv hw he
    rcases Nat.lt_or_ge n 2 with h2 | h2
    · exact hone n i m q (by omega) he
    · have h3 := half_pos n
      have h4 := half_lt h2
      cases m with
      | zero => rw [valueS_nil h2] at hv; cases hv
      | succ m =>
        cases q with
        | zero => rw [valueS_nil h2] at hw; cases hw
        | succ q =>
          rcases Nat.lt_or_ge i (half n) with h5 | h5
          · rw [valueS_left h2 h5] at hv hw
            rw [wayS_left h2 h5, wayS_left h2 h5] at he ⊢
            by_cases hx : (⟨#[1]⟩ : ByteArray) ++ (wayS ps s (half n) i m).2 ++ ps m = (⟨#[1]⟩ : ByteArray) ++ (wayS qs t (half n) i q).2 ++ qs q
            · exact (ih (half n) i m q (by omega) hv hw (app_inj hx (by rw [wayS_size, wayS_size])).1).cons _ _
            · exact Coll.head _ _ hx he
          · rw [valueS_right h2 h5] at hv hw
            rw [wayS_right h2 h5, wayS_right h2 h5] at he ⊢
            by_cases hx : (⟨#[1]⟩ : ByteArray) ++ ps m ++ (wayS ps s (n - half n) (i - half n) m).2 = (⟨#[1]⟩ : ByteArray) ++ qs q ++ (wayS qs t (n - half n) (i - half n) q).2
            · have hsz : (ps m).size = (qs q).size := by
                have h6 := congrArg ByteArray.size hx
                simp only [ByteArray.size_append, wayS_size] at h6
                omega
              exact (ih (n - half n) (i - half n) m q (by omega) hv hw (app_inj hx hsz).2).cons _ _
            · exact Coll.head _ _ hx he

/-- The strings of which digests are computed for the new root of an extension, from the root on, and the value. -/
def sidesS (ps : Nat → ByteArray) (old : ByteArray) (m n q : Nat) (whole : Bool) : List ByteArray × ByteArray :=
  if n ≤ m ∨ q = 0 then (if whole = true ∨ q = 0 then ([], old) else ([], ps 0))
  else if h : n ≤ 1 then ([], old)
  else if m ≤ half n then (((⟨#[1]⟩ : ByteArray) ++ (sidesS ps old m (half n) (q - 1) whole).2 ++ ps (q - 1)) :: (sidesS ps old m (half n) (q - 1) whole).1, nodeB (sidesS ps old m (half n) (q - 1) whole).2 (ps (q - 1)))
  else (((⟨#[1]⟩ : ByteArray) ++ ps (q - 1) ++ (sidesS ps old (m - half n) (n - half n) (q - 1) false).2) :: (sidesS ps old (m - half n) (n - half n) (q - 1) false).1, nodeB (ps (q - 1)) (sidesS ps old (m - half n) (n - half n) (q - 1) false).2)
  termination_by n
  decreasing_by
  all_goals first | exact half_lt (by omega) | (have := half_pos n; omega)
theorem sidesS_end {ps : Nat → ByteArray} {old : ByteArray} {m n q : Nat} {whole : Bool} (h : n ≤ m ∨ q = 0) (hw : whole = true ∨ q = 0) : sidesS ps old m n q whole = ([], old) := by rw [sidesS, if_pos h, if_pos hw]
theorem sidesS_one {ps : Nat → ByteArray} {old : ByteArray} {m n q : Nat} (h : n ≤ m) (hq : q ≠ 0) : sidesS ps old m n q false = ([], ps 0) := by rw [sidesS, if_pos (.inl h), if_neg (by simp [hq])]
theorem sidesS_left {ps : Nat → ByteArray} {old : ByteArray} {m n q : Nat} {whole : Bool} (h : m < n) (h0 : 1 ≤ m) (hi : m ≤ half n) :
    sidesS ps old m n (q + 1) whole = (((⟨#[1]⟩ : ByteArray) ++ (sidesS ps old m (half n) q whole).2 ++ ps q) :: (sidesS ps old m (half n) q whole).1, nodeB (sidesS ps old m (half n) q whole).2 (ps q)) := by
  rw [sidesS, if_neg (by omega), dif_neg (by omega), if_pos hi]; rfl
theorem sidesS_right {ps : Nat → ByteArray} {old : ByteArray} {m n q : Nat} {whole : Bool} (h : m < n) (hi : half n < m) :
    sidesS ps old m n (q + 1) whole = (((⟨#[1]⟩ : ByteArray) ++ ps q ++ (sidesS ps old (m - half n) (n - half n) q false).2) :: (sidesS ps old (m - half n) (n - half n) q false).1, nodeB (ps q) (sidesS ps old (m - half n) (n - half n) q false).2) := by
  have := half_pos n
  rw [sidesS, if_neg (by omega), dif_neg (by omega), if_neg (by omega)]; rfl
theorem sidesS_len (ps : Nat → ByteArray) (old : ByteArray) (q : Nat) : ∀ m n whole, 1 ≤ m → m ≤ n → (sidesS ps old m n q whole).1.length ≤ q := by
  induction q with
  | zero => intro m n whole h1 h2; rw [sidesS_end (.inr rfl) (.inr rfl)]; simp
  | succ q ih =>
    intro m n whole h1 h2
    by_cases hm : m = n
    · subst hm
      cases whole
      · rw [sidesS_one (Nat.le_refl _) (by omega)]; simp
      · rw [sidesS_end (.inl (Nat.le_refl _)) (.inl rfl)]; simp
    · have h4 := half_lt (n := n) (by omega)
      rcases Nat.lt_or_ge (half n) m with h5 | h5
      · rw [sidesS_right (by omega) h5]; have := ih (m - half n) (n - half n) false (by omega) (by omega); simp; omega
      · rw [sidesS_left (by omega) h1 h5]; have := ih m (half n) whole h1 h5; simp; omega
theorem sidesS_size (ps : Nat → ByteArray) (old : ByteArray) (ho : old.size = 32) (q : Nat) : ∀ m n whole, (∀ j, j < q → (ps j).size = 32) → (sidesS ps old m n q whole).2.size = 32 := by
  intro m n whole hp
  rw [sidesS]
  split
  · split
    · exact ho
    · exact hp 0 (by omega)
  · split
    · exact ho
    · split <;> exact shaB_size _
theorem sides_value (ps : Nat → ByteArray) (old : ByteArray) (k : Nat) : ∀ m n q whole, n ≤ k → 1 ≤ m → m ≤ n → (twoS ps old m n q whole).2.2 = true → (sidesS ps old m n q whole).2 = (twoS ps old m n q whole).2.1 := by
  induction k with
  | zero => intro m n q whole h h1 h2; omega
  | succ k ih =>
    intro m n q whole h h1 h2 hv
    by_cases hw : m = n ∧ whole = true
    · obtain ⟨rfl, rfl⟩ := hw
      rw [twoS_whole, sidesS_end (.inl (Nat.le_refl _)) (.inl rfl)]
    · cases q with
      | zero => rw [twoS_nil hw] at hv; cases hv
      | succ q =>
        by_cases hm : m = n
        · subst hm
          have hwf : whole = false := by cases whole; rfl; exact absurd ⟨rfl, rfl⟩ hw
          subst hwf
          rw [twoS_all] at hv ⊢
          have hq : q = 0 := by simpa using hv
          subst hq
          rw [sidesS_one (Nat.le_refl _) (by omega)]
        · have h3 := half_pos n
          have h4 := half_lt (n := n) (by omega)
          rcases Nat.lt_or_ge (half n) m with h5 | h5
          · rw [twoS_right (by omega) h5] at hv ⊢
            rw [sidesS_right (by omega) h5, ih _ _ _ _ (by omega) (by omega) (by omega) hv]
          · rw [twoS_left (by omega) h1 h5] at hv ⊢
            rw [sidesS_left (by omega) h1 h5, ih _ _ _ _ (by omega) h1 h5 hv]
theorem sides_binds (ps qs : Nat → ByteArray) (a b : ByteArray) (ha : a.size = 32) (hb : b.size = 32) (k : Nat) : ∀ m n q r whole, n ≤ k → 1 ≤ m → m ≤ n → (∀ j, j < q → (ps j).size = 32) → (∀ j, j < r → (qs j).size = 32) →
    (twoS ps a m n q whole).2.2 = true → (twoS qs b m n r whole).2.2 = true → (sidesS ps a m n q whole).2 = (sidesS qs b m n r whole).2 → (twoS ps a m n q whole).1 ≠ (twoS qs b m n r whole).1 →
    Coll (sidesS ps a m n q whole).1 (sidesS qs b m n r whole).1 := by
  induction k with
  | zero => intro m n q r whole h h1 h2; omega
  | succ k ih =>
    intro m n q r whole h h1 h2 hp hq hv hw he hne
    by_cases hmw : m = n ∧ whole = true
    · obtain ⟨rfl, rfl⟩ := hmw
      rw [sidesS_end (.inl (Nat.le_refl _)) (.inl rfl), sidesS_end (.inl (Nat.le_refl _)) (.inl rfl)] at he
      rw [twoS_whole, twoS_whole] at hne
      exact absurd he hne
    · cases q with
      | zero => rw [twoS_nil hmw] at hv; cases hv
      | succ q =>
        cases r with
        | zero => rw [twoS_nil hmw] at hw; cases hw
        | succ r =>
          by_cases hm : m = n
          · subst hm
            have hwf : whole = false := by cases whole; rfl; exact absurd ⟨rfl, rfl⟩ hmw
            subst hwf
            rw [twoS_all] at hv hw
            have hq0 : q = 0 := by simpa using hv
            have hr0 : r = 0 := by simpa using hw
            subst hq0
            subst hr0
            rw [sidesS_one (Nat.le_refl _) (by omega), sidesS_one (Nat.le_refl _) (by omega)] at he
            rw [twoS_all, twoS_all] at hne
            exact absurd he hne
          · have h3 := half_pos n
            have h4 := half_lt (n := n) (by omega)
            have hp' : ∀ j, j < q → (ps j).size = 32 := fun j hj => hp j (by omega)
            have hq' : ∀ j, j < r → (qs j).size = 32 := fun j hj => hq j (by omega)
            rcases Nat.lt_or_ge (half n) m with h5 | h5
            · rw [twoS_right (by omega) h5] at hv hw
              rw [twoS_right (by omega) h5, twoS_right (by omega) h5] at hne
              rw [sidesS_right (by omega) h5, sidesS_right (by omega) h5] at he ⊢
              by_cases hx : (⟨#[1]⟩ : ByteArray) ++ ps q ++ (sidesS ps a (m - half n) (n - half n) q false).2 = (⟨#[1]⟩ : ByteArray) ++ qs r ++ (sidesS qs b (m - half n) (n - half n) r false).2
              · obtain ⟨h7, h8⟩ := app_inj hx (by rw [hp q (by omega), hq r (by omega)])
                refine (ih _ _ _ _ _ (by omega) (by omega) (by omega) hp' hq' hv hw h8 (fun h9 => hne ?_)).cons _ _
                rw [h7, h9]
              · exact Coll.head _ _ hx he
            · rw [twoS_left (by omega) h1 h5] at hv hw
              rw [twoS_left (by omega) h1 h5, twoS_left (by omega) h1 h5] at hne
              rw [sidesS_left (by omega) h1 h5, sidesS_left (by omega) h1 h5] at he ⊢
              by_cases hx : (⟨#[1]⟩ : ByteArray) ++ (sidesS ps a m (half n) q whole).2 ++ ps q = (⟨#[1]⟩ : ByteArray) ++ (sidesS qs b m (half n) r whole).2 ++ qs r
              · obtain ⟨h7, _⟩ := app_inj hx (by rw [sidesS_size ps a ha _ _ _ _ hp', sidesS_size qs b hb _ _ _ _ hq'])
                exact (ih _ _ _ _ _ (by omega) h1 h5 hp' hq' hv hw h7 hne).cons _ _
              · exact Coll.head _ _ hx he

/-- 32 zero bytes. -/
def zero32 : ByteArray := ⟨Array.replicate 32 0⟩
theorem zero32_size : zero32.size = 32 := by simp [zero32, ByteArray.size]
/-- The strings of which digests are computed for the head of a list of records, the last one first, and the head. -/
def headsS (f : Nat → ByteArray) : Nat → List ByteArray × ByteArray
  | 0 => ([], zero32)
  | k + 1 => (((⟨#[2]⟩ : ByteArray) ++ (headsS f k).2 ++ f k) :: (headsS f k).1, chainB (headsS f k).2 (f k))
theorem headsS_len (f : Nat → ByteArray) : ∀ k, (headsS f k).1.length = k
  | 0 => rfl
  | k + 1 => by simp only [headsS, List.length_cons, headsS_len f k]
theorem headsS_size (f : Nat → ByteArray) : ∀ k, (headsS f k).2.size = 32
  | 0 => zero32_size
  | _ + 1 => shaB_size _
theorem heads_same {f g : Nat → ByteArray} : ∀ k, (∀ j, j < k → f j = g j) → headsS f k = headsS g k
  | 0, _ => rfl
  | k + 1, h => by simp only [headsS, heads_same k (fun j hj => h j (by omega)), h k (by omega)]
/-- The longer one, the first if none is. -/
def longer (x y : List ByteArray) : List ByteArray := if x.length < y.length then y else x
theorem heads_bind (f g : Nat → ByteArray) : ∀ k l, (headsS f k).2 = (headsS g l).2 →
    (k = l ∧ ∀ j, j < k → f j = g j) ∨ Coll (headsS f k).1 (headsS g l).1 ∨ (k ≠ l ∧ shaB (getB (longer (headsS f k).1 (headsS g l).1) (min k l)) = zero32)
  | 0, 0, _ => .inl ⟨rfl, fun j hj => absurd hj (by omega)⟩
  | 0, l + 1, h => .inr (.inr ⟨by omega, by
      rw [longer, if_pos (by rw [headsS_len, headsS_len]; omega), Nat.min_eq_left (by omega)]
      simp only [headsS, getB_zero]
      exact h.symm⟩)
  | k + 1, 0, h => .inr (.inr ⟨by omega, by
      rw [longer, if_neg (by rw [headsS_len, headsS_len]; omega), Nat.min_eq_right (by omega)]
      simp only [headsS, getB_zero]
      exact h⟩)
  | k + 1, l + 1, h => by
      by_cases hx : (⟨#[2]⟩ : ByteArray) ++ (headsS f k).2 ++ f k = (⟨#[2]⟩ : ByteArray) ++ (headsS g l).2 ++ g l
      · obtain ⟨h7, h8⟩ := app_inj hx (by rw [headsS_size, headsS_size])
        rcases heads_bind f g k l h7 with ⟨rfl, h9⟩ | h9 | ⟨h9, h10⟩
        · refine .inl ⟨rfl, fun j hj => ?_⟩
          rcases Nat.lt_or_ge j k with h11 | h11
          · exact h9 j h11
          · obtain rfl : j = k := by omega
            exact h8
        · exact .inr (.inl (h9.cons _ _))
        · refine .inr (.inr ⟨by omega, ?_⟩)
          rw [show min (k + 1) (l + 1) = min k l + 1 by omega]
          rw [longer, headsS_len, headsS_len] at h10 ⊢
          rcases Nat.lt_or_ge k l with h11 | h11
          · rw [if_pos (by omega)] at h10 ⊢
            simp only [headsS, getB_cons]
            exact h10
          · rw [if_neg (by omega)] at h10 ⊢
            simp only [headsS, getB_cons]
            exact h10
      · exact .inr (.inl (Coll.head _ _ hx h))
end Putlog
