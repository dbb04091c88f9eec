/- Plain mathematics of layer 5: how many true seconds a clock may take, windows of true seconds, valid clocks. Nothing of the program. -/
namespace Putlog

/-- The least and the greatest number of true seconds in which a clock may advance by n. -/
def loS (d n : Int) : Int := (1000 * n + d) / (1000 + d)
def hiS (d n : Int) : Int := (1000 * n + 999) / (1000 - d)
theorem loS_le {d n x : Int} (h0 : 0 ≤ d) : loS d n ≤ x ↔ 1000 * n < (1000 + d) * x + 1000 := by
  have h1 : loS d n ≤ x ↔ loS d n < x + 1 := by omega
  rw [h1, loS, Int.ediv_lt_iff_lt_mul (by omega), Int.add_mul, Int.mul_add, Int.add_mul, Int.mul_comm x d]
  omega
theorem le_hiS {d n x : Int} (h1 : d ≤ 100) : x ≤ hiS d n ↔ (1000 - d) * x - 1000 < 1000 * n := by
  rw [hiS, Int.le_ediv_iff_mul_le (by omega), Int.mul_comm x]
  omega
theorem loS_nonneg {d n : Int} (h0 : 0 ≤ d) (hn : 0 ≤ n) : 0 ≤ loS d n := Int.ediv_nonneg (by omega) (by omega)
theorem hiS_nonneg {d n : Int} (h1 : d ≤ 100) (hn : 0 ≤ n) : 0 ≤ hiS d n := Int.ediv_nonneg (by omega) (by omega)
theorem loS_mono {d n m : Int} (h0 : 0 ≤ d) (h : n ≤ m) : loS d n ≤ loS d m := Int.ediv_le_ediv (by omega) (by omega)
theorem hiS_mono {d n m : Int} (h1 : d ≤ 100) (h : n ≤ m) : hiS d n ≤ hiS d m := Int.ediv_le_ediv (by omega) (by omega)
theorem loS_hiS {d n : Int} (h0 : 0 ≤ d) (h1 : d ≤ 100) (hn : 0 ≤ n) : loS d n ≤ n ∧ n ≤ hiS d n := by
  constructor
  · rw [loS_le h0, Int.add_mul]
    have := Int.mul_nonneg h0 hn
    omega
  · rw [le_hiS h1, Int.sub_mul]
    have := Int.mul_nonneg h0 hn
    omega
theorem loS_le_hiS {d n : Int} (h0 : 0 ≤ d) (h1 : d ≤ 100) (hn : 0 ≤ n) : loS d n ≤ hiS d n := by
  have := loS_hiS h0 h1 hn; omega
theorem loS_upto {d n : Int} (h0 : 0 ≤ d) (hn : 0 ≤ n) : loS d n ≤ n := by
  rw [loS_le h0, Int.add_mul]
  have := Int.mul_nonneg h0 hn
  omega
theorem hiS_upto {d n : Int} (h1 : d ≤ 100) (hn : 0 ≤ n) : hiS d n ≤ 2 * n + 1 := by
  have h : ¬ (2 * n + 2 ≤ hiS d n) := by
    rw [le_hiS h1, Int.sub_mul]
    have := Int.mul_le_mul_of_nonneg_right h1 (show 0 ≤ 2 * n + 2 by omega)
    omega
  omega
theorem loS_zero {n : Int} : loS 0 n = n := by
  rw [loS, Int.add_zero, Int.add_zero]; omega
theorem hiS_zero {n : Int} : hiS 0 n = n := by
  rw [hiS, Int.sub_zero]; omega
theorem loS_wide {d e n : Int} (h0 : 0 ≤ d) (h : d ≤ e) (hn : 0 ≤ n) : loS e n ≤ loS d n := by
  rw [loS_le (by omega)]
  have h1 := (loS_le (d := d) (n := n) (x := loS d n) h0).1 (Int.le_refl _)
  have h2 := Int.mul_le_mul_of_nonneg_right (show 1000 + d ≤ 1000 + e by omega) (loS_nonneg h0 hn)
  omega
theorem hiS_wide {d e n : Int} (h1 : e ≤ 100) (h : d ≤ e) (hn : 0 ≤ n) : hiS d n ≤ hiS e n := by
  rw [le_hiS h1]
  have h2 := (le_hiS (d := d) (n := n) (x := hiS d n) (by omega)).1 (Int.le_refl _)
  have h3 := Int.mul_le_mul_of_nonneg_right (show 1000 - e ≤ 1000 - d by omega) (hiS_nonneg (n := n) (show d ≤ 100 by omega) hn)
  omega
/-- The inequality of a course. -/
def fitsB (d x n : Int) : Bool := decide ((1000 - d) * x - 1000 < 1000 * n) && decide (1000 * n < (1000 + d) * x + 1000)
theorem fitsB_iff {d x n : Int} (h0 : 0 ≤ d) (h1 : d ≤ 100) : fitsB d x n = true ↔ loS d n ≤ x ∧ x ≤ hiS d n := by
  rw [fitsB, Bool.and_eq_true, decide_eq_true_iff, decide_eq_true_iff, loS_le h0, le_hiS h1]
  exact And.comm

/-- A reading: its local second, and the least and the greatest true one. -/
abbrev Rd := Int × Int × Int
/-- The first and the last true second of a local one, by a reading. -/
def bndF (d l : Int) (r : Rd) : Int := if r.1 < l then r.2.1 + loS d (l - r.1) else if l < r.1 then r.2.1 - hiS d (r.1 - l) else r.2.1 - hiS d 0
def bndG (d l : Int) (r : Rd) : Int := if r.1 < l then r.2.2 + hiS d (l - r.1) else if l < r.1 then r.2.2 - loS d (r.1 - l) else r.2.2 + hiS d 0
def winF (d l : Int) (rs : List Rd) : Int := rs.foldl (fun f r => max f (bndF d l r)) 0
def winG (d l : Int) (rs : List Rd) : Int := rs.foldl (fun g r => min g (bndG d l r)) 10000000
theorem foldMax_le {α : Type} (f : α → Int) (t : Int) : ∀ (l : List α) (a : Int), l.foldl (fun x r => max x (f r)) a ≤ t ↔ a ≤ t ∧ ∀ r ∈ l, f r ≤ t
  | [], a => by simp
  | r :: l, a => by
    rw [List.foldl_cons, foldMax_le f t l, Int.max_le]
    simp only [List.mem_cons, forall_eq_or_imp, and_assoc]
theorem le_foldMin {α : Type} (f : α → Int) (t : Int) : ∀ (l : List α) (a : Int), t ≤ l.foldl (fun x r => min x (f r)) a ↔ t ≤ a ∧ ∀ r ∈ l, t ≤ f r
  | [], a => by simp
  | r :: l, a => by
    rw [List.foldl_cons, le_foldMin f t l, Int.le_min]
    simp only [List.mem_cons, forall_eq_or_imp, and_assoc]
theorem winF_le {d l t : Int} {rs : List Rd} : winF d l rs ≤ t ↔ 0 ≤ t ∧ ∀ r ∈ rs, bndF d l r ≤ t := foldMax_le _ _ _ _
theorem le_winG {d l t : Int} {rs : List Rd} : t ≤ winG d l rs ↔ t ≤ 10000000 ∧ ∀ r ∈ rs, t ≤ bndG d l r := le_foldMin _ _ _ _
theorem winF_nonneg {d l : Int} {rs : List Rd} : 0 ≤ winF d l rs := (winF_le.1 (Int.le_refl _)).1
theorem winG_upto {d l : Int} {rs : List Rd} : winG d l rs ≤ 10000000 := (le_winG.1 (Int.le_refl _)).1
theorem winF_snoc (d l : Int) (rs : List Rd) (r : Rd) : winF d l (rs ++ [r]) = max (winF d l rs) (bndF d l r) := by
  rw [winF, List.foldl_append]; rfl
theorem winG_snoc (d l : Int) (rs : List Rd) (r : Rd) : winG d l (rs ++ [r]) = min (winG d l rs) (bndG d l r) := by
  rw [winG, List.foldl_append]; rfl
theorem bndF_mono {d l m : Int} (h0 : 0 ≤ d) (h1 : d ≤ 100) (h : l ≤ m) (r : Rd) : bndF d l r ≤ bndF d m r := by
  unfold bndF
  have a1 := hiS_nonneg (n := 0) h1 (by omega)
  split
  · rw [if_pos (by omega)]
    have := loS_mono (n := l - r.1) (m := m - r.1) h0 (by omega)
    omega
  · split
    · have a2 := hiS_nonneg (n := r.1 - l) h1 (by omega)
      have a3 := hiS_mono (n := 0) (m := r.1 - l) h1 (by omega)
      split
      · have := loS_nonneg (n := m - r.1) h0 (by omega); omega
      · split
        · have := hiS_mono (n := r.1 - m) (m := r.1 - l) h1 (by omega); omega
        · omega
    · split
      · have := loS_nonneg (n := m - r.1) h0 (by omega); omega
      · rw [if_neg (by omega)]; omega
theorem bndG_mono {d l m : Int} (h0 : 0 ≤ d) (h1 : d ≤ 100) (h : l ≤ m) (r : Rd) : bndG d l r ≤ bndG d m r := by
  unfold bndG
  have a1 := hiS_nonneg (n := 0) h1 (by omega)
  split
  · rw [if_pos (by omega)]
    have := hiS_mono (n := l - r.1) (m := m - r.1) h1 (by omega)
    omega
  · split
    · have a2 := loS_nonneg (n := r.1 - l) h0 (by omega)
      split
      · have := hiS_nonneg (n := m - r.1) h1 (by omega); omega
      · split
        · have := loS_mono (n := r.1 - m) (m := r.1 - l) h0 (by omega); omega
        · omega
    · split
      · have := hiS_mono (n := 0) (m := m - r.1) h1 (by omega); omega
      · rw [if_neg (by omega)]; omega
theorem winF_mono {d l m : Int} (h0 : 0 ≤ d) (h1 : d ≤ 100) (h : l ≤ m) (rs : List Rd) : winF d l rs ≤ winF d m rs := by
  obtain ⟨a, b⟩ := winF_le.1 (Int.le_refl (winF d m rs))
  exact winF_le.2 ⟨a, fun r hr => Int.le_trans (bndF_mono h0 h1 h r) (b r hr)⟩
theorem winG_mono {d l m : Int} (h0 : 0 ≤ d) (h1 : d ≤ 100) (h : l ≤ m) (rs : List Rd) : winG d l rs ≤ winG d m rs := by
  obtain ⟨a, b⟩ := le_winG.1 (Int.le_refl (winG d l rs))
  exact le_winG.2 ⟨a, fun r hr => Int.le_trans (b r hr) (bndG_mono h0 h1 h r)⟩

/-- Valid clocks. -/
def okR : Int → List Rd → Bool
  | _, [] => true
  | e, r :: t => decide (e < r.1) && decide (r.1 ≤ 10000000) && decide (0 ≤ r.2.1) && decide (r.2.1 ≤ r.2.2) && decide (r.2.2 ≤ 10000000) && okR r.1 t
def lastL (e : Int) (rs : List Rd) : Int := rs.foldl (fun _ r => r.1) e
theorem okR_append : ∀ (a b : List Rd) (e : Int), okR e (a ++ b) = (okR e a && okR (lastL e a) b)
  | [], b, e => by simp [okR, lastL]
  | r :: a, b, e => by
    have h : lastL e (r :: a) = lastL r.1 a := rfl
    rw [List.cons_append, okR, okR, okR_append a b r.1, h]
    simp only [Bool.and_assoc]
theorem lastL_snoc (e : Int) (rs : List Rd) (r : Rd) : lastL e (rs ++ [r]) = r.1 := by rw [lastL, List.foldl_append]; rfl
def validC (d : Int) (rs : List Rd) : Bool := decide (0 ≤ d) && decide (d ≤ 100) && decide (rs.length ≤ 12) && okR (-1) rs
theorem okR_mem : ∀ {rs : List Rd} {e : Int}, -1 ≤ e → okR e rs = true → ∀ r ∈ rs, e < r.1 ∧ r.1 ≤ 10000000 ∧ 0 ≤ r.2.1 ∧ r.2.1 ≤ r.2.2 ∧ r.2.2 ≤ 10000000
  | [], _, _, _, r, hr => by simp at hr
  | q :: t, e, he, h, r, hr => by
    simp only [okR, Bool.and_eq_true, decide_eq_true_eq] at h
    obtain ⟨⟨⟨⟨⟨h1, h2⟩, h3⟩, h4⟩, h5⟩, h6⟩ := h
    rcases List.mem_cons.1 hr with rfl | hr
    · exact ⟨h1, h2, h3, h4, h5⟩
    · have := okR_mem (by omega) h6 r hr
      exact ⟨by omega, this.2⟩
theorem lastL_ge : ∀ {rs : List Rd} {e : Int}, -1 ≤ e → okR e rs = true → -1 ≤ lastL e rs ∧ (rs ≠ [] → e < lastL e rs) ∧ lastL e rs ≤ max e 10000000
  | [], e, he, _ => ⟨he, fun h => absurd rfl h, by simp [lastL]; omega⟩
  | q :: t, e, he, h => by
    simp only [okR, Bool.and_eq_true, decide_eq_true_eq] at h
    obtain ⟨⟨⟨⟨⟨h1, h2⟩, h3⟩, h4⟩, h5⟩, h6⟩ := h
    obtain ⟨a, b, c⟩ := lastL_ge (rs := t) (e := q.1) (by omega) h6
    have e1 : lastL e (q :: t) = lastL q.1 t := rfl
    rw [e1]
    refine ⟨a, fun _ => ?_, by omega⟩
    by_cases ht : t = []
    · subst ht; exact h1
    · have := b ht; omega
/-- What a local second has: At's answer. -/
def atOk (d : Int) (rs : List Rd) (l : Int) : Bool := validC d rs && decide (0 ≤ l) && decide (l ≤ 10000000) && decide (winF d l rs ≤ winG d l rs)
theorem validC_iff {d : Int} {rs : List Rd} : validC d rs = true ↔ 0 ≤ d ∧ d ≤ 100 ∧ rs.length ≤ 12 ∧ okR (-1) rs = true := by
  simp [validC, and_assoc]
theorem atOk_iff {d l : Int} {rs : List Rd} : atOk d rs l = true ↔ validC d rs = true ∧ 0 ≤ l ∧ l ≤ 10000000 ∧ winF d l rs ≤ winG d l rs := by
  simp [atOk, and_assoc]
/-- The first number up to n of which p holds. -/
def FirstI (p : Int → Prop) (n r : Int) : Prop := 0 ≤ r ∧ r ≤ n ∧ (∀ l, 0 ≤ l → l < r → ¬ p l) ∧ (∀ l, r ≤ l → l < n → p l)
theorem FirstI.uniq {p : Int → Prop} {n r s : Int} (h : FirstI p n r) (k : FirstI p n s) : r = s := by
  rcases Int.lt_trichotomy r s with e | e | e
  · exact absurd (h.2.2.2 r (Int.le_refl _) (by have := k.2.1; omega)) (k.2.2.1 r h.1 e)
  · exact e
  · exact absurd (k.2.2.2 s (Int.le_refl _) (by have := h.2.1; omega)) (h.2.2.1 s k.1 e)
/-- Of a chain of answers that never goes back, one place decides. -/
theorem FirstI.mk {p : Int → Prop} {n r : Int} (hm : ∀ l m, l ≤ m → p l → p m) (h0 : 0 ≤ r) (h1 : r ≤ n) (ha : r = 0 ∨ ¬ p (r - 1)) (hb : r = n ∨ p r) : FirstI p n r := by
  refine ⟨h0, h1, fun l hl hr hp => ?_, fun l hr hn => ?_⟩
  · rcases ha with ha | ha
    · omega
    · exact ha (hm l _ (by omega) hp)
  · rcases hb with hb | hb
    · omega
    · exact hm r l hr hb
/-- What Reads answers: the first local second whose window reaches t, and the first one behind it. -/
structure ReadsIs (d : Int) (rs : List Rd) (t a b : Int) : Prop where
  least : FirstI (fun l => t ≤ winG d l rs) 10000001 a
  beyond : FirstI (fun l => t < winF d l rs) 10000001 b
theorem ReadsIs.mem {d t a b : Int} {rs : List Rd} (h : ReadsIs d rs t a b) {l : Int} (h0 : 0 ≤ l) (h1 : l ≤ 10000000) : (a ≤ l ∧ l < b) ↔ (winF d l rs ≤ t ∧ t ≤ winG d l rs) := by
  obtain ⟨a1, a2, a3, a4⟩ := h.least
  obtain ⟨b1, b2, b3, b4⟩ := h.beyond
  constructor
  · rintro ⟨h2, h3⟩
    exact ⟨by have := b3 l h0 h3; omega, a4 l h2 (by omega)⟩
  · rintro ⟨h2, h3⟩
    refine ⟨?_, ?_⟩
    · rcases Int.lt_or_le l a with e | e
      · exact absurd h3 (a3 l h0 e)
      · exact e
    · rcases Int.lt_or_le l b with e | e
      · exact e
      · have := b4 l e (by omega); omega
end Putlog
