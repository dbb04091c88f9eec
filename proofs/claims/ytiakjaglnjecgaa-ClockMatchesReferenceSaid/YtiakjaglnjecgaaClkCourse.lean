/- Plain mathematics of layer 5: the course of a clock, and readings of it. Nothing of the program. -/
import Derived.Test.YtiakjaglnjecgaaClkPure
namespace Putlog

/-- What an arbitrary integer is drawn to. -/
def pkN (c n : Int) : Int := if c < 0 then -(c + 1) % n else c % n
theorem pkN_bounds (c : Int) {n : Int} (h : 0 < n) : 0 ≤ pkN c n ∧ pkN c n < n := by
  unfold pkN
  split
  · exact ⟨Int.emod_nonneg _ (by omega), Int.emod_lt_of_pos _ h⟩
  · exact ⟨Int.emod_nonneg _ (by omega), Int.emod_lt_of_pos _ h⟩
/-- What a rate adds by t seconds. -/
def clamp (t : Int) : Int := max 0 (min t 100)
def runs (d : Int) : List Int → Int → Int
  | [], _ => 0
  | r :: l, t => (pkN r (2 * d + 1) - d) * clamp t + runs d l (t - 100)
theorem runs_lip (d : Int) (h0 : 0 ≤ d) : ∀ (l : List Int) {s t : Int}, s ≤ t → -(d * (max 0 t - max 0 s)) ≤ runs d l t - runs d l s ∧ runs d l t - runs d l s ≤ d * (max 0 t - max 0 s)
  | [], s, t, h => by
    have := Int.mul_nonneg h0 (show 0 ≤ max 0 t - max 0 s by omega)
    simp only [runs]; omega
  | r :: l, s, t, h => by
    obtain ⟨a, b⟩ := runs_lip d h0 l (s := s - 100) (t := t - 100) (by omega)
    obtain ⟨p, q⟩ := pkN_bounds r (n := 2 * d + 1) (by omega)
    simp only [runs]
    have hx1 : -d ≤ pkN r (2 * d + 1) - d := by omega
    have hx2 : pkN r (2 * d + 1) - d ≤ d := by omega
    generalize pkN r (2 * d + 1) - d = x at *
    generalize runs d l (t - 100) = u at *
    generalize runs d l (s - 100) = v at *
    have hc : 0 ≤ clamp t - clamp s := by unfold clamp; omega
    have he : max 0 t - max 0 s = (clamp t - clamp s) + (max 0 (t - 100) - max 0 (s - 100)) := by unfold clamp; omega
    rw [he, Int.mul_add]
    have e1 : x * clamp t - x * clamp s = x * (clamp t - clamp s) := by rw [Int.mul_sub]
    generalize clamp t - clamp s = c at *
    generalize max 0 (t - 100) - max 0 (s - 100) = e at *
    have m1 := Int.mul_le_mul_of_nonneg_right hx1 hc
    have m2 := Int.mul_le_mul_of_nonneg_right hx2 hc
    rw [Int.neg_mul] at m1
    omega
/-- The thousandths of a local second that a course has run by t. -/
def ranC (d : Int) (rates : List Int) (t : Int) : Int := runs d (rates.take 20) t + 1000 * t
theorem ranC_zero (d : Int) (rates : List Int) : ranC d rates 0 = 0 := by
  have h : ∀ (l : List Int) (t : Int), t ≤ 0 → runs d l t = 0 := by
    intro l
    induction l with
    | nil => intro t _; rfl
    | cons r l ih =>
      intro t ht
      rw [runs, ih _ (by omega), show clamp t = 0 by unfold clamp; omega]; simp
  rw [ranC, h _ _ (Int.le_refl _)]; rfl
theorem ranC_lip {d : Int} (h0 : 0 ≤ d) (rates : List Int) {s t : Int} (hs : 0 ≤ s) (h : s ≤ t) : (1000 - d) * (t - s) ≤ ranC d rates t - ranC d rates s ∧ ranC d rates t - ranC d rates s ≤ (1000 + d) * (t - s) := by
  have := runs_lip d h0 (rates.take 20) h
  rw [show max 0 t - max 0 s = t - s by omega] at this
  unfold ranC
  rw [Int.sub_mul, Int.add_mul]
  omega
theorem ranC_nonneg {d : Int} (h0 : 0 ≤ d) (h1 : d ≤ 100) (rates : List Int) {t : Int} (h : 0 ≤ t) : 0 ≤ ranC d rates t ∧ ranC d rates t ≤ 1100 * t := by
  have a := ranC_lip h0 rates (Int.le_refl 0) h
  rw [ranC_zero] at a
  have b := Int.mul_nonneg (show 0 ≤ 1000 - d by omega) h
  have c := Int.mul_le_mul_of_nonneg_right (show 1000 + d ≤ 1100 by omega) h
  rw [show t - 0 = t by omega] at a
  omega
/-- The local second that a course shows. -/
def shownC (d s : Int) (rates : List Int) (t : Int) : Int := s + ranC d rates t / 1000
theorem shownC_bounds {d s : Int} (h0 : 0 ≤ d) (h1 : d ≤ 100) (hs : 0 ≤ s) (hs1 : s < 1000) (rates : List Int) {t : Int} (h : 0 ≤ t) : 0 ≤ shownC d s rates t ∧ shownC d s rates t ≤ 1000 + 2 * t := by
  have := ranC_nonneg h0 h1 rates h
  unfold shownC; omega
theorem shownC_fits {d s : Int} (h0 : 0 ≤ d) (h1 : d ≤ 100) (rates : List Int) {t u : Int} (ht : 0 ≤ t) (h : t ≤ u) :
    shownC d s rates t ≤ shownC d s rates u ∧ loS d (shownC d s rates u - shownC d s rates t) ≤ u - t ∧ u - t ≤ hiS d (shownC d s rates u - shownC d s rates t) := by
  obtain ⟨a, b⟩ := ranC_lip h0 rates ht h
  have c := Int.mul_nonneg (show 0 ≤ 1000 - d by omega) (show 0 ≤ u - t by omega)
  rw [loS_le h0, le_hiS h1]
  unfold shownC
  generalize ranC d rates t = x at *
  generalize ranC d rates u = y at *
  refine ⟨by omega, by omega, by omega⟩
/-- A reading of a course. -/
def ReadOf (d s : Int) (rates : List Int) (r : Rd) : Prop := ∃ t, 0 ≤ t ∧ t < 3000 ∧ r.1 = shownC d s rates t ∧ 0 ≤ r.2.1 ∧ r.2.1 ≤ t ∧ t ≤ r.2.2 ∧ r.2.2 ≤ t + 50
theorem hiS_neg {d : Int} (h1 : d ≤ 100) : 0 ≤ hiS d 0 := hiS_nonneg h1 (by omega)
theorem read_bnd {d s : Int} (h0 : 0 ≤ d) (h1 : d ≤ 100) {rates : List Int} {r : Rd} (h : ReadOf d s rates r) {u : Int} (hu : 0 ≤ u) : bndF d (shownC d s rates u) r ≤ u ∧ u ≤ bndG d (shownC d s rates u) r := by
  obtain ⟨t, t0, _, e, r1, r2, r3, _⟩ := h
  have z := hiS_nonneg (n := 0) h1 (by omega)
  unfold bndF bndG
  rw [e]
  rcases Int.le_total t u with h | h
  · obtain ⟨a, b, c⟩ := shownC_fits (s := s) h0 h1 rates t0 h
    by_cases k : shownC d s rates t < shownC d s rates u
    · simp only [if_pos k]; omega
    · have k2 : shownC d s rates u - shownC d s rates t = 0 := by omega
      rw [k2] at b c
      simp only [if_neg k, if_neg (show ¬ shownC d s rates u < shownC d s rates t by omega)]; omega
  · obtain ⟨a, b, c⟩ := shownC_fits (s := s) h0 h1 rates hu h
    by_cases k : shownC d s rates u < shownC d s rates t
    · simp only [if_neg (show ¬ shownC d s rates t < shownC d s rates u by omega), if_pos k]; omega
    · have k2 : shownC d s rates t - shownC d s rates u = 0 := by omega
      rw [k2] at b c
      simp only [if_neg k, if_neg (show ¬ shownC d s rates t < shownC d s rates u by omega)]; omega
/-- What Made makes. -/
structure MadeOf (d s : Int) (rates : List Int) (rs : List Rd) : Prop where
  d0 : 0 ≤ d
  d1 : d ≤ 100
  few : rs.length ≤ 12
  ok : okR (-1) rs = true
  reads : ∀ r ∈ rs, ReadOf d s rates r
theorem MadeOf.valid {d s : Int} {rates : List Int} {rs : List Rd} (h : MadeOf d s rates rs) : validC d rs = true := validC_iff.2 ⟨h.d0, h.d1, h.few, h.ok⟩
/-- The true second lies in the window of what the course shows at it. -/
theorem MadeOf.sound {d s : Int} {rates : List Int} {rs : List Rd} (h : MadeOf d s rates rs) {t : Int} (h0 : 0 ≤ t) (h1 : t ≤ 10000000) : winF d (shownC d s rates t) rs ≤ t ∧ t ≤ winG d (shownC d s rates t) rs :=
  ⟨winF_le.2 ⟨h0, fun r hr => (read_bnd h.d0 h.d1 (h.reads r hr) h0).1⟩, le_winG.2 ⟨h1, fun r hr => (read_bnd h.d0 h.d1 (h.reads r hr) h0).2⟩⟩

/-- Fewer, or vaguer, readings: each of the first ones' lies within one of the second ones. -/
def Wider (a b : List Rd) : Prop := ∀ r ∈ b, ∃ q ∈ a, q.1 = r.1 ∧ r.2.1 ≤ q.2.1 ∧ q.2.2 ≤ r.2.2
theorem wider_win {d l : Int} {a b : List Rd} (h : Wider a b) : winF d l b ≤ winF d l a ∧ winG d l a ≤ winG d l b := by
  obtain ⟨f0, f1⟩ := winF_le.1 (Int.le_refl (winF d l a))
  obtain ⟨g0, g1⟩ := le_winG.1 (Int.le_refl (winG d l a))
  refine ⟨winF_le.2 ⟨f0, fun r hr => ?_⟩, le_winG.2 ⟨g0, fun r hr => ?_⟩⟩
  · obtain ⟨q, hq, e, h1, h2⟩ := h r hr
    have := f1 q hq
    unfold bndF at *; rw [e] at this; split <;> (try split) <;> simp_all <;> omega
  · obtain ⟨q, hq, e, h1, h2⟩ := h r hr
    have := g1 q hq
    unfold bndG at *; rw [e] at this; split <;> (try split) <;> simp_all <;> omega
/-- Readings whose true seconds are moved. -/
def moveR (n : Int) (rs : List Rd) : List Rd := rs.map fun r => (r.1, r.2.1 + n, r.2.2 + n)
theorem bndF_move (d l n : Int) (r : Rd) : bndF d l (r.1, r.2.1 + n, r.2.2 + n) = bndF d l r + n := by
  unfold bndF; dsimp only; split <;> (try split) <;> omega
theorem bndG_move (d l n : Int) (r : Rd) : bndG d l (r.1, r.2.1 + n, r.2.2 + n) = bndG d l r + n := by
  unfold bndG; dsimp only; split <;> (try split) <;> omega
theorem okR_move {n : Int} (h0 : 0 ≤ n) : ∀ {rs : List Rd} {e : Int}, okR e rs = true → (∀ r ∈ rs, r.2.2 + n ≤ 10000000) → okR e (moveR n rs) = true
  | [], _, _, _ => rfl
  | r :: t, e, h, hb => by
    simp only [okR, Bool.and_eq_true, decide_eq_true_eq, moveR, List.map_cons] at h ⊢
    obtain ⟨⟨⟨⟨⟨h1, h2⟩, h3⟩, h4⟩, h5⟩, h6⟩ := h
    exact ⟨⟨⟨⟨⟨h1, h2⟩, by omega⟩, by omega⟩, hb r (by simp)⟩, okR_move h0 h6 (fun q hq => hb q (by simp [hq]))⟩
theorem bndG_small {d l : Int} (h0 : 0 ≤ d) (h1 : d ≤ 100) {r : Rd} (hr : r.1 ≤ 20000) (hr0 : 0 ≤ r.1) (hl : 0 ≤ l) (hl1 : l ≤ 20000) (hh : r.2.2 ≤ 20000) : bndG d l r ≤ 100000 := by
  have z := hiS_upto (n := 0) h1 (by omega)
  unfold bndG
  split
  · have := hiS_upto (n := l - r.1) h1 (by omega); omega
  · split
    · have := loS_nonneg (n := r.1 - l) h0 (by omega); omega
    · omega
theorem move_win {d l n : Int} {rs : List Rd} (h0 : 0 ≤ d) (h1 : d ≤ 100) (hn : 0 ≤ n) (hn1 : n ≤ 100000) (hl : 0 ≤ l) (hl1 : l ≤ 20000) (hne : rs ≠ []) (hr : ∀ r ∈ rs, 0 ≤ r.1 ∧ r.1 ≤ 20000 ∧ r.2.2 ≤ 20000) (hz : winF d l rs ≠ 0) :
    winF d l (moveR n rs) = winF d l rs + n ∧ winG d l (moveR n rs) = winG d l rs + n := by
  have f0 : 0 ≤ winF d l rs := winF_nonneg
  obtain ⟨_, fa⟩ := winF_le.1 (Int.le_refl (winF d l rs))
  obtain ⟨_, ga⟩ := le_winG.1 (Int.le_refl (winG d l rs))
  obtain ⟨m0, ma⟩ := winF_le.1 (Int.le_refl (winF d l (moveR n rs)))
  obtain ⟨_, na⟩ := le_winG.1 (Int.le_refl (winG d l (moveR n rs)))
  obtain ⟨q, hq⟩ := List.exists_mem_of_ne_nil rs hne
  have mem : ∀ r ∈ rs, (r.1, r.2.1 + n, r.2.2 + n) ∈ moveR n rs := fun r hr => List.mem_map.2 ⟨r, hr, rfl⟩
  have mem2 : ∀ x ∈ moveR n rs, ∃ r ∈ rs, (r.1, r.2.1 + n, r.2.2 + n) = x := fun x hx => List.mem_map.1 hx
  have sm : ∀ r ∈ rs, bndG d l r ≤ 100000 := fun r hr' => bndG_small h0 h1 (hr r hr').2.1 (hr r hr').1 hl hl1 (hr r hr').2.2
  constructor
  · apply Int.le_antisymm
    · refine winF_le.2 ⟨by omega, fun x hx => ?_⟩
      obtain ⟨r, hr', rfl⟩ := mem2 x hx
      rw [bndF_move]; have := fa r hr'; omega
    · have : winF d l rs ≤ winF d l (moveR n rs) - n := by
        by_cases k : 0 ≤ winF d l (moveR n rs) - n
        · refine winF_le.2 ⟨k, fun r hr' => ?_⟩
          have := ma _ (mem r hr'); rw [bndF_move] at this; omega
        · exfalso
          apply hz
          apply Int.le_antisymm
          · refine winF_le.2 ⟨Int.le_refl _, fun r hr' => ?_⟩
            have := ma _ (mem r hr'); rw [bndF_move] at this; omega
          · exact f0
      omega
  · apply Int.le_antisymm
    · have hq1 := na _ (mem q hq)
      rw [bndG_move] at hq1
      have hq2 := sm q hq
      have : winG d l (moveR n rs) - n ≤ winG d l rs := by
        refine le_winG.2 ⟨by omega, fun r hr' => ?_⟩
        have := na _ (mem r hr'); rw [bndG_move] at this; omega
      omega
    · have hq1 := ga q hq
      have hq2 := sm q hq
      refine le_winG.2 ⟨by omega, fun x hx => ?_⟩
      obtain ⟨r, hr', rfl⟩ := mem2 x hx
      rw [bndG_move]; have := ga r hr'; omega
end Putlog
