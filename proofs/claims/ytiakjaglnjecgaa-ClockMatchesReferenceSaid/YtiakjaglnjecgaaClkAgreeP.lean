/- Plain mathematics of layer 5: spells, how many of them have a second, and the first longest run of seconds that most of them have. Nothing of the program. -/
namespace Putlog

abbrev Sp := Int × Int
def inSp (s : Int) (p : Sp) : Bool := decide (p.1 ≤ s) && decide (s < p.2)
/-- How many spells have a second. -/
def cnt (s : Int) : List Sp → Int
  | [] => 0
  | p :: l => (if inSp s p then 1 else 0) + cnt s l
theorem cnt_append (s : Int) : ∀ (a b : List Sp), cnt s (a ++ b) = cnt s a + cnt s b
  | [], b => by simp [cnt]
  | p :: a, b => by rw [List.cons_append, cnt, cnt, cnt_append s a b]; omega
theorem cnt_snoc (s : Int) (l : List Sp) (p : Sp) : cnt s (l ++ [p]) = cnt s l + if inSp s p then 1 else 0 := by
  rw [cnt_append]; simp [cnt]
theorem cnt_bounds (s : Int) : ∀ l : List Sp, 0 ≤ cnt s l ∧ cnt s l ≤ l.length
  | [] => by simp [cnt]
  | p :: l => by
    have := cnt_bounds s l
    rw [cnt, List.length_cons]
    split <;> omega
/-- What changes at a second. -/
def dlt (x : Int) (p : Sp) : Int := if p.1 < p.2 then (if p.1 = x then 1 else 0) - (if p.2 = x then 1 else 0) else 0
def chg (x : Int) : List Sp → Int
  | [] => 0
  | p :: l => dlt x p + chg x l
theorem chg_append (s : Int) : ∀ (a b : List Sp), chg s (a ++ b) = chg s a + chg s b
  | [], b => by simp [chg]
  | p :: a, b => by rw [List.cons_append, chg, chg, chg_append s a b]; omega
theorem chg_snoc (x : Int) (l : List Sp) (p : Sp) : chg x (l ++ [p]) = chg x l + dlt x p := by rw [chg_append]; simp [chg]
theorem chg_bounds (x : Int) : ∀ l : List Sp, -(l.length : Int) ≤ chg x l ∧ chg x l ≤ l.length
  | [] => by simp [chg]
  | p :: l => by
    have := chg_bounds x l
    rw [chg, List.length_cons]
    unfold dlt
    split <;> (try split) <;> (try split) <;> omega
theorem cnt_step (x : Int) : ∀ l : List Sp, cnt x l = cnt (x - 1) l + chg x l
  | [] => by simp [cnt, chg]
  | p :: l => by
    rw [cnt, cnt, chg, cnt_step x l]
    unfold dlt inSp
    simp only [Bool.and_eq_true, decide_eq_true_eq]
    split <;> split <;> split <;> (try split) <;> (try split) <;> omega
/-- The ends of spells that have seconds. -/
def endAt (l : List Sp) (x : Int) : Prop := ∃ p ∈ l, p.1 < p.2 ∧ (x = p.1 ∨ x = p.2)
theorem cnt_flat {a b : Int} (hab : a ≤ b) : ∀ {l : List Sp}, (∀ x, endAt l x → ¬ (a < x ∧ x ≤ b)) → cnt a l = cnt b l
  | [], _ => rfl
  | p :: l, h => by
    rw [cnt, cnt, cnt_flat hab (l := l) (fun x ⟨q, hq, h1⟩ => h x ⟨q, by simp [hq], h1⟩)]
    congr 1
    unfold inSp
    by_cases hp : p.1 < p.2
    · have h1 := h p.1 ⟨p, by simp, hp, .inl rfl⟩
      have h2 := h p.2 ⟨p, by simp, hp, .inr rfl⟩
      simp only [Bool.and_eq_true, decide_eq_true_eq]
      split <;> split <;> omega
    · simp only [Bool.and_eq_true, decide_eq_true_eq]
      split <;> split <;> omega
theorem cnt_before {s : Int} : ∀ {l : List Sp}, (∀ x, endAt l x → s < x) → cnt s l = 0
  | [], _ => rfl
  | p :: l, h => by
    rw [cnt, cnt_before (l := l) (fun x ⟨q, hq, h1⟩ => h x ⟨q, by simp [hq], h1⟩)]
    have : inSp s p = false := by
      unfold inSp
      by_cases hp : p.1 < p.2
      · have h1 := h p.1 ⟨p, by simp, hp, .inl rfl⟩
        simp; omega
      · simp; omega
    rw [this]; rfl
theorem cnt_behind {s : Int} : ∀ {l : List Sp}, (∀ x, endAt l x → x ≤ s) → cnt s l = 0
  | [], _ => rfl
  | p :: l, h => by
    rw [cnt, cnt_behind (l := l) (fun x ⟨q, hq, h1⟩ => h x ⟨q, by simp [hq], h1⟩)]
    have : inSp s p = false := by
      unfold inSp
      by_cases hp : p.1 < p.2
      · have h1 := h p.2 ⟨p, by simp, hp, .inr rfl⟩
        simp; omega
      · simp; omega
    rw [this]; rfl
/-- What Agree answers. -/
structure Agreed (l : List Sp) (a b k : Int) : Prop where
  k0 : 0 ≤ k
  most : ∀ s, cnt s l ≤ k
  none : k = 0 → a = 0 ∧ b = 0
  lt : k ≠ 0 → a < b
  first : k ≠ 0 → ∀ s, s < a → cnt s l < k
  run : k ≠ 0 → ∀ s, a ≤ s → s < b → cnt s l = k
  stop : k ≠ 0 → cnt b l < k
theorem Agreed.uniq {l : List Sp} {a b k c d m : Int} (h : Agreed l a b k) (g : Agreed l c d m) : a = c ∧ b = d ∧ k = m := by
  have hk : k = m := by
    apply Int.le_antisymm
    · by_cases e : k = 0
      · have := g.k0; omega
      · rw [← h.run e a (Int.le_refl _) (h.lt e)]; exact g.most a
    · by_cases e : m = 0
      · have := h.k0; omega
      · rw [← g.run e c (Int.le_refl _) (g.lt e)]; exact h.most c
  subst hk
  by_cases e : k = 0
  · have := h.none e; have := g.none e; omega
  · have e1 : a = c := by
      apply Int.le_antisymm
      · rcases Int.lt_or_le c a with x | x
        · have := h.first e c x; rw [g.run e c (Int.le_refl _) (g.lt e)] at this; omega
        · exact x
      · rcases Int.lt_or_le a c with x | x
        · have := g.first e a x; rw [h.run e a (Int.le_refl _) (h.lt e)] at this; omega
        · exact x
    subst e1
    refine ⟨rfl, ?_, rfl⟩
    apply Int.le_antisymm
    · rcases Int.lt_or_le d b with x | x
      · have := h.run e d (by have := g.lt e; omega) x; have := g.stop e; omega
      · exact x
    · rcases Int.lt_or_le b d with x | x
      · have := g.run e b (by have := h.lt e; omega) x; have := h.stop e; omega
      · exact x
/-- The sweep: what is known when all seconds below n are done. -/
structure Sweep (l : List Sp) (n c m a b : Int) (last : Bool) : Prop where
  now : c = cnt (n - 1) l
  m0 : 0 ≤ m
  most : ∀ s, s < n → cnt s l ≤ m
  none : m = 0 → a = 0 ∧ b = 0 ∧ last = false
  first : m ≠ 0 → a < n ∧ cnt a l = m ∧ ∀ s, s < a → cnt s l < m
  on : m ≠ 0 → last = true → ∀ s, a ≤ s → s < n → cnt s l = m
  off : m ≠ 0 → last = false → a < b ∧ b < n ∧ (∀ s, a ≤ s → s < b → cnt s l = m) ∧ cnt b l < m
theorem Sweep.start {l : List Sp} {n : Int} (h : ∀ x, endAt l x → n ≤ x) : Sweep l n 0 0 0 0 false := by
  have z : ∀ s, s < n → cnt s l = 0 := fun s hs => cnt_before (fun x hx => by have := h x hx; omega)
  refine ⟨(z _ (by omega)).symm, Int.le_refl _, fun s hs => by rw [z s hs]; omega, fun _ => ⟨rfl, rfl, rfl⟩, fun e => absurd rfl e, fun e => absurd rfl e, fun e => absurd rfl e⟩
/-- All seconds from an end to the next one have the same number. -/
theorem Sweep.more {l : List Sp} {x n c m a b : Int} {last : Bool} (h : Sweep l (x + 1) c m a b last) (hxn : x < n) (hf : ∀ y, endAt l y → y ≤ x ∨ n ≤ y) : Sweep l n c m a b last := by
  have z : ∀ s, x ≤ s → s < n → cnt s l = cnt x l := fun s h1 h2 => (cnt_flat h1 (fun y hy e => by have := hf y hy; omega)).symm
  have e1 : x + 1 - 1 = x := by omega
  obtain ⟨h1, h2, h3, h4, h5, h6, h7⟩ := h
  rw [e1] at h1
  refine ⟨by rw [z _ (by omega) (by omega)]; exact h1, h2, fun s hs => ?_, h4, fun e => ⟨by have := (h5 e).1; omega, (h5 e).2⟩, fun e e2 s q1 q2 => ?_, fun e e2 => ?_⟩
  · rcases Int.lt_or_le s x with k | k
    · exact h3 s (by omega)
    · rw [z s k hs]; exact h3 x (by omega)
  · rcases Int.lt_or_le s x with k | k
    · exact h6 e e2 s q1 (by omega)
    · rw [z s k q2]
      rcases Int.lt_or_le x a with u | u
      · have := (h5 e).1; omega
      · exact h6 e e2 x u (by omega)
  · obtain ⟨p, q, r, t⟩ := h7 e e2
    exact ⟨p, by omega, r, t⟩
/-- One end more. -/
theorem Sweep.up {l : List Sp} {x c m a b : Int} {last : Bool} (h : Sweep l x c m a b last) (hm : m < c + chg x l) : Sweep l (x + 1) (c + chg x l) (c + chg x l) x b true := by
  have e1 : cnt x l = c + chg x l := by rw [cnt_step, ← h.now]
  have hb := h.most
  have h0 := h.m0
  refine ⟨by rw [show x + 1 - 1 = x by omega]; exact e1.symm, by omega, fun s hs => ?_, (fun e => by omega), fun _ => ⟨by omega, e1, fun s hs => by have := hb s hs; omega⟩, fun _ _ s h1 h2 => by rw [show s = x by omega]; exact e1, fun _ e => by cases e⟩
  rcases Int.lt_or_le s x with k | k
  · have := hb s k; omega
  · rw [show s = x by omega, e1]; omega
theorem Sweep.down {l : List Sp} {x c m a b : Int} (h : Sweep l x c m a b true) (hm : c + chg x l < m) : Sweep l (x + 1) (c + chg x l) m a x false := by
  have e1 : cnt x l = c + chg x l := by rw [cnt_step, ← h.now]
  have hb := h.most
  have ne : m ≠ 0 := fun e => by have := (h.none e).2.2; cases this
  obtain ⟨f1, f2, f3⟩ := h.first ne
  refine ⟨by rw [show x + 1 - 1 = x by omega]; exact e1.symm, h.m0, fun s hs => ?_, fun e => absurd e ne, fun _ => ⟨by omega, f2, f3⟩, (fun _ e => by cases e), fun _ _ => ⟨f1, by omega, fun s h1 h2 => h.on ne rfl s h1 h2, by omega⟩⟩
  rcases Int.lt_or_le s x with k | k
  · exact hb s k
  · rw [show s = x by omega, e1]; omega
theorem Sweep.idle {l : List Sp} {x c m a b : Int} (h : Sweep l x c m a b false) (hm : c + chg x l ≤ m) : Sweep l (x + 1) (c + chg x l) m a b false := by
  have e1 : cnt x l = c + chg x l := by rw [cnt_step, ← h.now]
  refine ⟨by rw [show x + 1 - 1 = x by omega]; exact e1.symm, h.m0, fun s hs => ?_, h.none, fun e => ⟨by have := (h.first e).1; omega, (h.first e).2⟩, (fun _ e => by cases e), fun e e2 => ?_⟩
  · rcases Int.lt_or_le s x with k | k
    · exact h.most s k
    · rw [show s = x by omega, e1]; omega
  · obtain ⟨p, q, r, t⟩ := h.off e e2
    exact ⟨p, by omega, r, t⟩
theorem Sweep.stay {l : List Sp} {x c m a b : Int} (h : Sweep l x c m a b true) (hm : c + chg x l = m) : Sweep l (x + 1) (c + chg x l) m a b true := by
  have e1 : cnt x l = c + chg x l := by rw [cnt_step, ← h.now]
  have ne : m ≠ 0 := fun e => by have := (h.none e).2.2; cases this
  refine ⟨by rw [show x + 1 - 1 = x by omega]; exact e1.symm, h.m0, fun s hs => ?_, fun e => absurd e ne, fun e => ⟨by have := (h.first e).1; omega, (h.first e).2⟩, fun e _ s h1 h2 => ?_, fun _ e => by cases e⟩
  · rcases Int.lt_or_le s x with k | k
    · exact h.most s k
    · rw [show s = x by omega, e1]; omega
  · rcases Int.lt_or_le s x with k | k
    · exact h.on e rfl s h1 k
    · rw [show s = x by omega, e1, hm]
/-- Behind the last end. -/
theorem Sweep.done {l : List Sp} {x c m a b : Int} {last : Bool} (h : Sweep l (x + 1) c m a b last) (hx : ∀ y, endAt l y → y ≤ x) : Agreed l a b m := by
  have z : ∀ s, x ≤ s → cnt s l = 0 := fun s hs => cnt_behind (fun y hy => by have := hx y hy; omega)
  have hl : m ≠ 0 → last = false := by
    intro e
    cases last with
    | false => rfl
    | true =>
      have h1 := (h.first e)
      rcases Int.lt_or_le x a with u | u
      · omega
      · have := h.on e rfl x u (by omega); rw [z x (Int.le_refl _)] at this; omega
  refine ⟨h.m0, fun s => ?_, fun e => ⟨(h.none e).1, (h.none e).2.1⟩, fun e => (h.off e (hl e)).1, fun e => (h.first e).2.2, fun e => (h.off e (hl e)).2.2.1, fun e => (h.off e (hl e)).2.2.2⟩
  rcases Int.lt_or_le s (x + 1) with k | k
  · exact h.most s k
  · rw [z s (by omega)]; exact h.m0
/-- No spell has a second. -/
theorem Agreed.empty {l : List Sp} (h : ∀ x, ¬ endAt l x) : Agreed l 0 0 0 :=
  ⟨Int.le_refl _, fun s => by rw [cnt_before (fun x hx => absurd hx (h x))]; omega, fun _ => ⟨rfl, rfl⟩, fun e => absurd rfl e, fun e => absurd rfl e, fun e => absurd rfl e, fun e => absurd rfl e⟩
end Putlog
