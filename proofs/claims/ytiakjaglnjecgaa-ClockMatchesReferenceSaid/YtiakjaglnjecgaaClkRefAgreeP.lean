/- Plain mathematics of layer 5: the reference's way to the answer of Agree. -/
import Derived.Test.YtiakjaglnjecgaaClkAgreeP
namespace Putlog

/-- A second that spells have is behind a start that as many have. -/
theorem cnt_le_of {s x : Int} : ∀ {l : List Sp}, (∀ p ∈ l, inSp s p = true → inSp x p = true) → cnt s l ≤ cnt x l
  | [], _ => Int.le_refl _
  | p :: l, h => by
    have ih := cnt_le_of (l := l) (fun q hq => h q (by simp [hq]))
    have hp := h p (by simp)
    rw [cnt, cnt]
    by_cases k : inSp s p = true
    · rw [if_pos k, if_pos (hp k)]; omega
    · rw [if_neg k]; split <;> omega
theorem cnt_pos {s : Int} : ∀ {l : List Sp}, cnt s l ≠ 0 → ∃ p ∈ l, inSp s p = true
  | [], h => absurd rfl h
  | p :: l, h => by
    by_cases k : inSp s p = true
    · exact ⟨p, by simp, k⟩
    · rw [cnt, if_neg k] at h
      obtain ⟨q, hq, e⟩ := cnt_pos (s := s) (l := l) (fun e => h (by rw [e]; rfl))
      exact ⟨q, by simp [hq], e⟩
theorem last_start {s : Int} : ∀ {l : List Sp}, (∃ p ∈ l, inSp s p = true) → ∃ p ∈ l, inSp s p = true ∧ ∀ q ∈ l, inSp s q = true → q.1 ≤ p.1
  | [], ⟨p, hp, _⟩ => by simp at hp
  | a :: l, ⟨p, hp, hi⟩ => by
    by_cases hx : ∃ p ∈ l, inSp s p = true
    · obtain ⟨b, hb, hbi, hmax⟩ := last_start hx
      by_cases k : inSp s a = true ∧ b.1 < a.1
      · exact ⟨a, by simp, k.1, fun q hq hqi => by
          rcases List.mem_cons.1 hq with rfl | hq
          · omega
          · have := hmax q hq hqi; omega⟩
      · exact ⟨b, by simp [hb], hbi, fun q hq hqi => by
          rcases List.mem_cons.1 hq with rfl | hq
          · by_cases k2 : b.1 < q.1
            · exact absurd ⟨hqi, k2⟩ k
            · omega
          · exact hmax q hq hqi⟩
    · rcases List.mem_cons.1 hp with rfl | hp
      · exact ⟨p, by simp, hi, fun q hq hqi => by
          rcases List.mem_cons.1 hq with rfl | hq
          · omega
          · exact absurd ⟨q, hq, hqi⟩ hx⟩
      · exact absurd ⟨p, hp, hi⟩ hx
theorem cnt_start {s : Int} {l : List Sp} (h : cnt s l ≠ 0) : ∃ p ∈ l, p.1 ≤ s ∧ cnt s l ≤ cnt p.1 l := by
  obtain ⟨p, hp, hi, hmax⟩ := last_start (cnt_pos h)
  have hi' : p.1 ≤ s ∧ s < p.2 := by simpa [inSp] using hi
  refine ⟨p, hp, hi'.1, cnt_le_of fun q hq hqi => ?_⟩
  have h1 := hmax q hq hqi
  have h2 : q.1 ≤ s ∧ s < q.2 := by simpa [inSp] using hqi
  simp [inSp]; omega
/-- The best start of the first k spells. -/
structure Cand (l : List Sp) (k : Nat) (m f : Int) : Prop where
  m0 : 0 ≤ m
  m1 : m ≤ l.length
  all : ∀ j, j < k → cnt (l.getD j default).1 l ≤ m
  at_ : m ≠ 0 → cnt f l = m
  least : m ≠ 0 → ∀ j, j < k → cnt (l.getD j default).1 l = m → f ≤ (l.getD j default).1
theorem Cand.start (l : List Sp) : Cand l 0 0 0 := ⟨Int.le_refl _, by omega, fun j h => by omega, fun e => absurd rfl e, fun e => absurd rfl e⟩
theorem Cand.yes {l : List Sp} {k : Nat} {m f n x : Int} (h : Cand l k m f) (hx : (l.getD k default).1 = x) (hn : cnt x l = n) (hb : m < n ∨ (n = m ∧ x < f)) : Cand l (k + 1) n x := by
  have h0 := h.m0
  have h1 := cnt_bounds x l
  refine ⟨by omega, by omega, fun j hj => ?_, fun _ => hn, fun e j hj hc => ?_⟩
  · rcases Nat.lt_or_ge j k with q | q
    · have := h.all j q; omega
    · rw [show j = k by omega, hx, hn]; omega
  · rcases Nat.lt_or_ge j k with q | q
    · have := h.all j q
      rcases hb with hb | ⟨hb, hb2⟩
      · omega
      · have := h.least (by omega) j q (by omega); omega
    · rw [show j = k by omega, hx]; omega
theorem Cand.no {l : List Sp} {k : Nat} {m f n x : Int} (h : Cand l k m f) (hx : (l.getD k default).1 = x) (hn : cnt x l = n) (hb : ¬ (m < n ∨ (n = m ∧ x < f))) : Cand l (k + 1) m f := by
  refine ⟨h.m0, h.m1, fun j hj => ?_, h.at_, fun e j hj hc => ?_⟩
  · rcases Nat.lt_or_ge j k with q | q
    · exact h.all j q
    · rw [show j = k by omega, hx, hn]; omega
  · rcases Nat.lt_or_ge j k with q | q
    · exact h.least e j q hc
    · rw [show j = k by omega, hx] at hc ⊢; omega
theorem mem_getD {l : List Sp} {p : Sp} (h : p ∈ l) : ∃ j, j < l.length ∧ l.getD j default = p := by
  obtain ⟨j, hj, e⟩ := List.mem_iff_getElem.1 h
  exact ⟨j, hj, by rw [List.getD_eq_getElem?_getD, List.getElem?_eq_getElem hj]; exact e⟩
theorem Cand.most {l : List Sp} {m f : Int} (h : Cand l l.length m f) (s : Int) : cnt s l ≤ m := by
  by_cases e : cnt s l = 0
  · have := h.m0; omega
  · obtain ⟨p, hp, _, hc⟩ := cnt_start e
    obtain ⟨j, hj, rfl⟩ := mem_getD hp
    have := h.all j hj; omega
theorem Cand.first {l : List Sp} {m f : Int} (h : Cand l l.length m f) (hm : m ≠ 0) {s : Int} (hs : s < f) : cnt s l < m := by
  have h1 := h.most s
  rcases Int.lt_or_eq_of_le h1 with q | q
  · exact q
  · obtain ⟨p, hp, hps, hc⟩ := cnt_start (s := s) (l := l) (by omega)
    obtain ⟨j, hj, rfl⟩ := mem_getD hp
    have h2 := h.all j hj
    have := h.least hm j hj (by omega); omega
theorem Cand.none {l : List Sp} {f : Int} (h : Cand l l.length 0 f) : Agreed l 0 0 0 :=
  ⟨Int.le_refl _, h.most, fun _ => ⟨rfl, rfl⟩, fun e => absurd rfl e, fun e => absurd rfl e, fun e => absurd rfl e, fun e => absurd rfl e⟩
/-- The least end beyond a second. -/
def Nxt (es : List Int) (to nx : Int) : Prop := (nx = to ∧ ∀ e ∈ es, e ≤ to) ∨ (to < nx ∧ nx ∈ es ∧ ∀ e ∈ es, to < e → nx ≤ e)
theorem Nxt.start (to : Int) : Nxt [] to to := .inl ⟨rfl, fun e h => by simp at h⟩
theorem Nxt.yes {es : List Int} {to nx e : Int} (h : Nxt es to nx) (h1 : to < e) (h2 : nx = to ∨ e < nx) : Nxt (es ++ [e]) to e := by
  refine .inr ⟨h1, by simp, fun x hx hlt => ?_⟩
  rcases List.mem_append.1 hx with hx | hx
  · rcases h with ⟨q, r⟩ | ⟨q, r, t⟩
    · have := r x hx; omega
    · have := t x hx hlt; omega
  · have : x = e := by simpa using hx
    omega
theorem Nxt.no {es : List Int} {to nx e : Int} (h : Nxt es to nx) (h1 : ¬ (to < e ∧ (nx = to ∨ e < nx))) : Nxt (es ++ [e]) to nx := by
  rcases h with ⟨q, r⟩ | ⟨q, r, t⟩
  · refine .inl ⟨q, fun x hx => ?_⟩
    rcases List.mem_append.1 hx with hx | hx
    · exact r x hx
    · have : x = e := by simpa using hx
      omega
  · refine .inr ⟨q, by simp [r], fun x hx hlt => ?_⟩
    rcases List.mem_append.1 hx with hx | hx
    · exact t x hx hlt
    · have : x = e := by simpa using hx
      omega
theorem count_less {α : Type} {p q : α → Bool} : ∀ {l : List α}, (∀ x ∈ l, p x = true → q x = true) → (∃ x ∈ l, q x = true ∧ p x = false) → l.countP p < l.countP q
  | [], _, ⟨x, hx, _⟩ => by simp at hx
  | a :: l, h, ⟨x, hx, h1, h2⟩ => by
    have hle : l.countP p ≤ l.countP q := List.countP_mono_left (fun y hy => h y (by simp [hy]))
    rw [List.countP_cons, List.countP_cons]
    rcases List.mem_cons.1 hx with rfl | hx
    · rw [h1, h2]; simp; omega
    · have ih := count_less (l := l) (fun y hy => h y (by simp [hy])) ⟨x, hx, h1, h2⟩
      have ha := h a (by simp)
      cases hp : p a with
      | false => simp; split <;> omega
      | true => rw [ha hp]; simp; omega
end Putlog
