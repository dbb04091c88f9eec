/- Plain mathematics of layer 7: the convex hull of a list of places, corner after corner, is a valid polygon; a polygon that begins at another corner. Nothing of the program. -/
import Derived.Test.YtliligehofjegaaPlnGeo
namespace Pln

def far (a b : Pt) : Int := (a.1 - b.1) * (a.1 - b.1) + (a.2 - b.2) * (a.2 - b.2)
/-- The lowest place so far, the leftmost one of several. -/
def fstP (l : List Pt) : Nat → Pt
  | 0 => vx l 0
  | k + 1 => if (vx l k).2 < (fstP l k).2 ∨ (vx l k).2 = (fstP l k).2 ∧ (vx l k).1 < (fstP l k).1 then vx l k else fstP l k
/-- The next corner so far. -/
def scn (l : List Pt) (o : Pt) : Nat → Pt
  | 0 => o
  | k + 1 => if vx l k = o then scn l o k else if scn l o k = o ∨ turn o (scn l o k) (vx l k) < 0 ∨ turn o (scn l o k) (vx l k) = 0 ∧ far o (scn l o k) < far o (vx l k) then vx l k else scn l o k
def nxtP (l : List Pt) (o : Pt) : Pt := scn l o l.length
/-- The corners from here on: those found, and at most n more. -/
def hulF (l : List Pt) (f : Pt) : Nat → List Pt → Pt → List Pt
  | 0, out, _ => out
  | n + 1, out, o => if nxtP l o = o ∨ nxtP l o = f then out else hulF l f n (out ++ [nxtP l o]) (nxtP l o)
def hulP (l : List Pt) : List Pt := hulF l (fstP l l.length) l.length [fstP l l.length] (fstP l l.length)

theorem fst_mem {l : List Pt} (h0 : 0 < l.length) : ∀ {k : Nat}, k ≤ l.length → fstP l k ∈ l
  | 0, _ => vx_mem h0
  | k + 1, h => by
    rw [fstP]; split
    · exact vx_mem (by omega)
    · exact fst_mem h0 (by omega)
theorem fst_least {l : List Pt} : ∀ {k : Nat}, ∀ i, i < k → (fstP l k).2 < (vx l i).2 ∨ (fstP l k).2 = (vx l i).2 ∧ (fstP l k).1 ≤ (vx l i).1
  | k + 1, i, hi => by
    have ih : ∀ i, i < k → (fstP l k).2 < (vx l i).2 ∨ (fstP l k).2 = (vx l i).2 ∧ (fstP l k).1 ≤ (vx l i).1 := fun i hi => fst_least i hi
    rw [fstP]
    by_cases e : i = k
    · subst e; split <;> omega
    · have := ih i (by omega)
      split <;> omega
/-- All of these places are on the map. -/
def Ons (l : List Pt) : Prop := ∀ p ∈ l, On p
theorem fst_apex {l : List Pt} (h0 : 0 < l.length) (ho : Ons l) : Apex l (fstP l l.length) := by
  refine ⟨fun p => p.1 + 100 * p.2, ⟨1, 100, 0, fun p => by grind⟩, fun p hp hne => ?_⟩
  obtain ⟨i, hi, rfl⟩ := mem_vx hp
  have h := fst_least (l := l) (k := l.length) i hi
  have a := ho _ hp
  have b := ho _ (fst_mem (l := l) h0 (Nat.le_refl _))
  have := a.x0; have := a.x1; have := b.x0; have := b.x1
  dsimp only
  rcases h with h | ⟨h, k⟩
  · omega
  · rcases Int.lt_or_le (fstP l l.length).1 (vx l i).1 with h3 | h3
    · omega
    · exact absurd (Prod.ext (by omega) (by omega)) hne
/-- The edge from a to b has all places to its left, or on it. -/
structure Edge (l : List Pt) (a b : Pt) : Prop where
  mem : b ∈ l
  ne : b ≠ a
  all : ∀ p ∈ l, p ≠ a → 0 < turn a b p ∨ turn a b p = 0 ∧ far a p ≤ far a b
def Part (l : List Pt) (o s : Pt) (k : Nat) : Prop := (s = o ∧ ∀ i, i < k → vx l i = o) ∨
  (s ∈ l ∧ s ≠ o ∧ ∀ i, i < k → vx l i ≠ o → 0 < turn o s (vx l i) ∨ turn o s (vx l i) = 0 ∧ far o (vx l i) ≤ far o s)
theorem scn_part {l : List Pt} {o : Pt} (ha : Apex l o) : ∀ {k : Nat}, k ≤ l.length → Part l o (scn l o k) k
  | 0, _ => .inl ⟨rfl, fun i hi => by omega⟩
  | k + 1, hk => by
    have ih := scn_part ha (k := k) (by omega)
    have hm : vx l k ∈ l := vx_mem (by omega)
    rw [scn]
    by_cases e : vx l k = o
    · rw [if_pos e]
      rcases ih with ⟨h1, h2⟩ | ⟨h1, h2, h3⟩
      · exact .inl ⟨h1, fun i hi => by
          by_cases e2 : i = k
          · rw [e2]; exact e
          · exact h2 i (by omega)⟩
      · exact .inr ⟨h1, h2, fun i hi hne => by
          by_cases e2 : i = k
          · rw [e2] at hne; exact absurd e hne
          · exact h3 i (by omega) hne⟩
    · rw [if_neg e]
      generalize scn l o k = s at ih ⊢
      have last : ∀ q, (∀ i, i < k → vx l i ≠ o → 0 < turn o q (vx l i) ∨ turn o q (vx l i) = 0 ∧ far o (vx l i) ≤ far o q) → (0 < turn o q (vx l k) ∨ turn o q (vx l k) = 0 ∧ far o (vx l k) ≤ far o q) → q ∈ l → q ≠ o → Part l o q (k + 1) := fun q h1 h2 h3 h4 => .inr ⟨h3, h4, fun i hi hne => by
        by_cases e2 : i = k
        · rw [e2]; exact h2
        · exact h1 i (by omega) hne⟩
      rcases ih with ⟨h1, h2⟩ | ⟨h1, h2, h3⟩
      · rw [if_pos (.inl h1)]
        exact last _ (fun i hi hne => absurd (h2 i hi) hne) (.inr ⟨turn_r _ _, Int.le_refl _⟩) hm e
      · by_cases c : s = o ∨ turn o s (vx l k) < 0 ∨ turn o s (vx l k) = 0 ∧ far o s < far o (vx l k)
        · rw [if_pos c]
          refine last _ (fun i hi hne => ?_) (.inr ⟨turn_r _ _, Int.le_refl _⟩) hm e
          have hi2 : vx l i ∈ l := vx_mem (by omega)
          rcases c with c | c | ⟨c, c2⟩
          · exact absurd c h2
          · have c3 : 0 < turn o (vx l k) s := by rw [turn_swap']; omega
            have h4 : 0 ≤ turn o s (vx l i) := by rcases h3 i hi hne with h | h <;> omega
            exact .inl (trans_lt ha hm h1 hi2 e h2 hne c3 h4)
          · have c3 : turn o (vx l k) s = 0 := by rw [turn_swap']; omega
            rcases h3 i hi hne with h | ⟨h, h'⟩
            · exact .inl (trans_lt' ha hm h1 hi2 e h2 hne (by omega) h)
            · exact .inr ⟨trans_eq ha h1 h2 c3 h, by omega⟩
        · rw [if_neg c]
          refine last _ h3 ?_ h1 h2
          have := fun a => c (.inr (.inl a)); have := fun a b => c (.inr (.inr ⟨a, b⟩))
          by_cases c2 : turn o s (vx l k) = 0
          · exact .inr ⟨c2, by have := this c2; omega⟩
          · exact .inl (by omega)
theorem nxt_edge {l : List Pt} {o : Pt} (ha : Apex l o) (hne : nxtP l o ≠ o) : Edge l o (nxtP l o) := by
  rcases scn_part ha (Nat.le_refl l.length) with ⟨h1, _⟩ | ⟨h1, h2, h3⟩
  · exact absurd h1 hne
  · exact ⟨h1, h2, fun p hp hpn => by obtain ⟨i, hi, rfl⟩ := mem_vx hp; exact h3 i hi hpn⟩
theorem nxt_all {l : List Pt} {o : Pt} (ha : Apex l o) (he : nxtP l o = o) : ∀ p ∈ l, p = o := by
  rcases scn_part ha (Nat.le_refl l.length) with ⟨_, h2⟩ | ⟨_, h2, _⟩
  · exact fun p hp => by obtain ⟨i, hi, rfl⟩ := mem_vx hp; exact h2 i hi
  · exact absurd he h2
theorem mul_bd {x y : Int} (h1 : -40 ≤ x) (h2 : x ≤ 40) (h3 : -40 ≤ y) (h4 : y ≤ 40) : x * y ≤ 1600 := by
  have a := Int.mul_nonneg (by omega : 0 ≤ 40 - x) (by omega : 0 ≤ 40 + y)
  have b := Int.mul_nonneg (by omega : 0 ≤ 40 + x) (by omega : 0 ≤ 40 - y)
  grind
theorem sq_pos {x : Int} (h : x ≠ 0) : 0 < x * x := by
  rcases Int.lt_or_gt_of_ne h with h | h
  · have := Int.mul_pos (by omega : 0 < -x) (by omega : 0 < -x); grind
  · exact Int.mul_pos h h
theorem sq_nonneg (x : Int) : 0 ≤ x * x := by
  by_cases h : x = 0
  · subst h; omega
  · exact Int.le_of_lt (sq_pos h)
theorem far_pos {a b : Pt} (h : a ≠ b) : 0 < far a b := by
  unfold far
  have h1 := sq_nonneg (a.1 - b.1); have h2 := sq_nonneg (a.2 - b.2)
  by_cases e : a.1 = b.1
  · have : a.2 - b.2 ≠ 0 := fun e2 => h (Prod.ext e (by omega))
    have := sq_pos this; omega
  · have := sq_pos (by omega : a.1 - b.1 ≠ 0); omega
/-- The end of an edge is an apex. -/
theorem edge_apex {l : List Pt} {a b : Pt} (ho : Ons l) (ha : a ∈ l) (h : Edge l a b) : Apex l b := by
  refine ⟨fun p => 4000 * turn a b p - ((b.1 - a.1) * (p.1 - b.1) + (b.2 - a.2) * (p.2 - b.2)), ?_, fun p hp hne => ?_⟩
  · exact ⟨-4000 * (b.2 - a.2) - (b.1 - a.1), 4000 * (b.1 - a.1) - (b.2 - a.2), 4000 * ((b.2 - a.2) * a.1 - (b.1 - a.1) * a.2) + (b.1 - a.1) * b.1 + (b.2 - a.2) * b.2, fun p => by unfold turn; grind⟩
  · dsimp only
    rw [turn_r]
    have e1 : (b.1 - a.1) * (b.1 - b.1) + (b.2 - a.2) * (b.2 - b.2) = 0 := by grind
    rw [e1]
    have f := far_pos hne
    by_cases hpa : p = a
    · subst hpa
      rw [turn_l]; unfold far at f
      have e2 : (b.1 - p.1) * (p.1 - b.1) + (b.2 - p.2) * (p.2 - b.2) = -((p.1 - b.1) * (p.1 - b.1) + (p.2 - b.2) * (p.2 - b.2)) := by grind
      rw [e2]; omega
    · rcases h.all p hp hpa with h1 | ⟨h1, h2⟩
      · have oa := ho a ha; have ob := ho b h.mem; have op := ho p hp
        have := oa.x0; have := oa.x1; have := oa.y0; have := oa.y1
        have := ob.x0; have := ob.x1; have := ob.y0; have := ob.y1
        have := op.x0; have := op.x1; have := op.y0; have := op.y1
        have m1 := mul_bd (x := b.1 - a.1) (y := p.1 - b.1) (by omega) (by omega) (by omega) (by omega)
        have m2 := mul_bd (x := b.2 - a.2) (y := p.2 - b.2) (by omega) (by omega) (by omega) (by omega)
        omega
      · rw [h1]
        have e2 : far a p = far p b + 2 * ((b.1 - a.1) * (p.1 - b.1) + (b.2 - a.2) * (p.2 - b.2)) + far a b := by unfold far; grind
        omega
theorem same_sign {p q x y : Int} (hp : 0 < p) (hq : 0 < q) (h : p * x = q * y) : (0 < x → 0 < y) ∧ (x < 0 → y < 0) := by
  constructor
  · intro hx; exact pos_of_mul hq (by have := Int.mul_pos hp hx; omega)
  · intro hx
    have := Int.mul_pos hp (by omega : 0 < -x)
    have h2 : 0 < q * -y := by grind
    have := pos_of_mul hq h2; omega
/-- Three apexes are not on one line. -/
theorem col3 {l : List Pt} {a b c : Pt} (Ha : Apex l a) (Hb : Apex l b) (Hc : Apex l c) (ha : a ∈ l) (hb : b ∈ l) (hc : c ∈ l) (ab : a ≠ b) (ac : a ≠ c) (bc : b ≠ c) : turn a b c ≠ 0 := by
  intro h
  obtain ⟨f, ⟨A, B, C, ef⟩, hf⟩ := Ha
  obtain ⟨g, ⟨A', B', C', eg⟩, hg⟩ := Hb
  obtain ⟨k, ⟨A'', B'', C'', ek⟩, hk⟩ := Hc
  have f1 := hf b hb (fun e => ab e.symm); have f2 := hf c hc (fun e => ac e.symm)
  have g1 := hg a ha ab; have g2 := hg c hc (fun e => bc e.symm)
  have k1 := hk a ha ac; have k2 := hk b hb bc
  have x1 : (f c - f a) * (b.1 - a.1) = (f b - f a) * (c.1 - a.1) := by rw [ef, ef, ef]; unfold turn at h; grind
  have y1 : (f c - f a) * (b.2 - a.2) = (f b - f a) * (c.2 - a.2) := by rw [ef, ef, ef]; unfold turn at h; grind
  have x2 : (g c - g b) * (a.1 - b.1) = (g a - g b) * (c.1 - b.1) := by rw [eg, eg, eg]; unfold turn at h; grind
  have y2 : (g c - g b) * (a.2 - b.2) = (g a - g b) * (c.2 - b.2) := by rw [eg, eg, eg]; unfold turn at h; grind
  have x3 : (k b - k c) * (a.1 - c.1) = (k a - k c) * (b.1 - c.1) := by rw [ek, ek, ek]; unfold turn at h; grind
  have y3 : (k b - k c) * (a.2 - c.2) = (k a - k c) * (b.2 - c.2) := by rw [ek, ek, ek]; unfold turn at h; grind
  have s1 := same_sign (by omega) (by omega) x1; have s2 := same_sign (by omega) (by omega) x2; have s3 := same_sign (by omega) (by omega) x3
  have t1 := same_sign (by omega) (by omega) y1; have t2 := same_sign (by omega) (by omega) y2; have t3 := same_sign (by omega) (by omega) y3
  have ex : b.1 = a.1 := by
    rcases Int.lt_trichotomy b.1 a.1 with h | h | h
    · have := s1.2 (by omega); have := s2.1 (by omega); have := s3.1 (by omega); omega
    · exact h
    · have := s1.1 (by omega); have := s2.2 (by omega); have := s3.2 (by omega); omega
  have ey : b.2 = a.2 := by
    rcases Int.lt_trichotomy b.2 a.2 with h | h | h
    · have := t1.2 (by omega); have := t2.1 (by omega); have := t3.1 (by omega); omega
    · exact h
    · have := t1.1 (by omega); have := t2.2 (by omega); have := t3.2 (by omega); omega
  exact ab (Prod.ext ex.symm ey.symm)
/-- Two edges don't end at the same corner. -/
theorem edge_inj {l : List Pt} {a b c : Pt} (Ha : Apex l a) (Hb : Apex l b) (Hc : Apex l c) (ha : a ∈ l) (hb : b ∈ l) (h1 : Edge l a c) (h2 : Edge l b c) : a = b := by
  by_cases e : a = b
  · exact e
  · exfalso
    have t1 := h1.all b hb (fun x => e x.symm)
    have t2 := h2.all a ha e
    have e1 : turn a c b = -turn a b c := by rw [turn_swap']
    have e2 : turn b c a = turn a b c := by rw [turn_rot]
    have := col3 Ha Hb Hc ha hb h1.mem e (fun x => h1.ne x.symm) (fun x => h2.ne x.symm)
    omega
/-- What holds of the corners found so far. -/
structure Way (l : List Pt) (f : Pt) (out : List Pt) (o : Pt) : Prop where
  pos : 0 < out.length
  first : vx out 0 = f
  last : vx out (out.length - 1) = o
  nodup : ∀ i, i < out.length → ∀ j, j < out.length → vx out i = vx out j → i = j
  mem : ∀ i, i < out.length → vx out i ∈ l
  apex : ∀ i, i < out.length → Apex l (vx out i)
  edge : ∀ i, i + 1 < out.length → Edge l (vx out i) (vx out (i + 1))
theorem vx_app_l {a b : List Pt} {i : Nat} (h : i < a.length) : vx (a ++ b) i = vx a i := by
  unfold vx; rw [List.getD_eq_getElem?_getD, List.getD_eq_getElem?_getD, List.getElem?_append_left h]
theorem vx_app_r {a b : List Pt} (i : Nat) : vx (a ++ b) (a.length + i) = vx b i := by
  unfold vx; rw [List.getD_eq_getElem?_getD, List.getD_eq_getElem?_getD, List.getElem?_append_right (by omega), show a.length + i - a.length = i by omega]
theorem way_start {l : List Pt} (h0 : 0 < l.length) (ho : Ons l) : Way l (fstP l l.length) [fstP l l.length] (fstP l l.length) :=
  ⟨by simp, rfl, rfl, fun i hi j hj _ => by simp at hi hj; omega, fun i hi => by simp at hi; subst hi; exact fst_mem h0 (Nat.le_refl _),
    fun i hi => by simp at hi; subst hi; exact fst_apex h0 ho, fun i hi => by simp at hi⟩
theorem way_step {l : List Pt} {f : Pt} {out : List Pt} {o : Pt} (ho : Ons l) (w : Way l f out o) (h1 : nxtP l o ≠ o) (h2 : nxtP l o ≠ f) : Way l f (out ++ [nxtP l o]) (nxtP l o) := by
  have hp := w.pos
  have hl : out.length - 1 < out.length := by omega
  have hom : o ∈ l := by rw [← w.last]; exact w.mem _ hl
  have hoa : Apex l o := by rw [← w.last]; exact w.apex _ hl
  have he := nxt_edge hoa h1
  have hna := edge_apex ho hom he
  have new : vx (out ++ [nxtP l o]) out.length = nxtP l o := vx_app_r (a := out) (b := [nxtP l o]) 0
  have hnew : ∀ i, i < out.length → vx out i ≠ nxtP l o := by
    intro i hi e
    rcases i with _ | i
    · rw [w.first] at e; exact h2 e.symm
    · have e1 := w.edge i hi
      rw [e] at e1
      have := edge_inj (w.apex i (by omega)) hoa hna (w.mem i (by omega)) hom e1 he
      rw [← w.last] at this
      have := w.nodup i (by omega) (out.length - 1) hl this
      omega
  have len : (out ++ [nxtP l o]).length = out.length + 1 := by simp
  have all : ∀ {P : Pt → Prop}, (∀ i, i < out.length → P (vx out i)) → P (nxtP l o) → ∀ i, i < (out ++ [nxtP l o]).length → P (vx (out ++ [nxtP l o]) i) := by
    intro P k1 k2 i hi
    rw [len] at hi
    by_cases e : i = out.length
    · rw [e, new]; exact k2
    · rw [vx_app_l (by omega)]; exact k1 i (by omega)
  refine ⟨by rw [len]; omega, by rw [vx_app_l hp]; exact w.first, by rw [len]; exact new, ?_, all w.mem he.mem, all w.apex hna, ?_⟩
  · intro i hi j hj e
    rw [len] at hi hj
    by_cases ei : i = out.length
    · by_cases ej : j = out.length
      · omega
      · rw [ei, new, vx_app_l (by omega)] at e; exact absurd e.symm (hnew j (by omega))
    · by_cases ej : j = out.length
      · rw [ej, new, vx_app_l (by omega)] at e; exact absurd e (hnew i (by omega))
      · rw [vx_app_l (by omega), vx_app_l (by omega)] at e; exact w.nodup i (by omega) j (by omega) e
  · intro i hi
    rw [len] at hi
    by_cases e : i + 1 = out.length
    · rw [e, new, vx_app_l (by omega), show i = out.length - 1 by omega, w.last]; exact he
    · rw [vx_app_l (by omega), vx_app_l (by omega)]; exact w.edge i (by omega)
theorem nodup_of {l : List Pt} (h : ∀ i, i < l.length → ∀ j, j < l.length → vx l i = vx l j → i = j) : l.Nodup := by
  rw [List.nodup_iff_pairwise_ne, List.pairwise_iff_getElem]
  intro i j hi hj hij e
  have := h i hi j hj (by rw [vx_eq hi, vx_eq hj]; exact e)
  omega
theorem length_le {a b : List Pt} (h : a.Nodup) (hs : ∀ p ∈ a, p ∈ b) : a.length ≤ b.length := by
  induction a generalizing b with
  | nil => simp
  | cons x t ih =>
    have hx : x ∈ b := hs x (by simp)
    have h2 := List.nodup_cons.1 h
    have := ih (b := b.erase x) h2.2 fun p hp => by
      have hne : p ≠ x := fun e => h2.1 (by rw [← e]; exact hp)
      exact (List.mem_erase_of_ne hne).2 (hs p (by simp [hp]))
    have hl : 0 < b.length := List.length_pos_of_mem hx
    rw [List.length_erase_of_mem hx] at this
    simp only [List.length_cons]; omega
theorem way_len {l : List Pt} {f : Pt} {out : List Pt} {o : Pt} (w : Way l f out o) : out.length ≤ l.length :=
  length_le (nodup_of w.nodup) fun p hp => by obtain ⟨i, hi, rfl⟩ := mem_vx hp; exact w.mem i hi
/-- A way that has come around is a valid polygon. -/
theorem way_val {l : List Pt} {f : Pt} {out : List Pt} {o : Pt} (ho : Ons l) (h8 : l.length ≤ 8) (w : Way l f out o) (h : nxtP l o = o ∨ nxtP l o = f) (h3 : 3 ≤ out.length) : Val out := by
  have hl : out.length - 1 < out.length := by omega
  have hom : o ∈ l := by rw [← w.last]; exact w.mem _ hl
  have hoa : Apex l o := by rw [← w.last]; exact w.apex _ hl
  have hlen := way_len w
  have hne : nxtP l o ≠ o := fun e => by
    have := nxt_all hoa e
    have h0 := this _ (w.mem 0 (by omega)); have h1 := this _ (w.mem 1 (by omega))
    have := w.nodup 0 (by omega) 1 (by omega) (by rw [h0, h1]); omega
  have he := nxt_edge hoa hne
  have hf : nxtP l o = f := h.resolve_left hne
  rw [hf] at he
  have edges : ∀ i, i < out.length → Edge l (vx out i) (nx out i) := by
    intro i hi
    rcases Nat.lt_or_ge (i + 1) out.length with h1 | h1
    · rw [nx_in h1]; exact w.edge i h1
    · rw [nx_last (by omega), w.first, show i = out.length - 1 by omega, w.last]; exact he
  refine ⟨h3, by omega, fun i hi => ho _ (w.mem i hi), fun i hi k hk h1 h2 => ?_⟩
  have e := edges i hi
  have n1 : vx out k ≠ vx out i := fun x => h1 (w.nodup k hk i hi x)
  have hm := mod_lt' hi
  have n2 : vx out k ≠ nx out i := fun x => h2 (w.nodup k hk _ hm x)
  have c := col3 (w.apex i hi) (w.apex _ hm) (w.apex k hk) (w.mem i hi) (w.mem _ hm) (w.mem k hk) (fun x => e.ne x.symm) (fun x => n1 x.symm) (fun x => n2 x.symm)
  have c' : turn (vx out i) (nx out i) (vx out k) ≠ 0 := c
  rcases e.all _ (w.mem k hk) n1 with h | h
  · exact h
  · exact absurd h.1 c'
theorem hul_way {l : List Pt} {f : Pt} (ho : Ons l) : ∀ {n : Nat} {out : List Pt} {o : Pt}, Way l f out o → l.length + 1 ≤ out.length + n → ∃ o', Way l f (hulF l f n out o) o' ∧ (nxtP l o' = o' ∨ nxtP l o' = f)
  | 0, out, o, w, h => by have := way_len w; omega
  | n + 1, out, o, w, h => by
    rw [hulF]
    by_cases c : nxtP l o = o ∨ nxtP l o = f
    · rw [if_pos c]; exact ⟨o, w, c⟩
    · rw [if_neg c]
      exact hul_way ho (way_step ho w (fun e => c (.inl e)) (fun e => c (.inr e))) (by simp; omega)
theorem hul_val {l : List Pt} (h0 : 0 < l.length) (h8 : l.length ≤ 8) (ho : Ons l) (h3 : 3 ≤ (hulP l).length) : Val (hulP l) := by
  obtain ⟨o, w, h⟩ := hul_way ho (way_start h0 ho) (n := l.length) (by simp; omega)
  exact way_val ho h8 w h h3
/-- More rounds than places are never wanted. -/
theorem hulF_more {l : List Pt} {f : Pt} (ho : Ons l) : ∀ {n m : Nat} {out : List Pt} {o : Pt}, Way l f out o → l.length + 1 ≤ out.length + n → n ≤ m → hulF l f m out o = hulF l f n out o
  | 0, _, out, o, w, h, _ => by have := way_len w; omega
  | n + 1, 0, out, o, w, h, hm => by omega
  | n + 1, m + 1, out, o, w, h, hm => by
    rw [hulF, hulF]
    by_cases c : nxtP l o = o ∨ nxtP l o = f
    · rw [if_pos c, if_pos c]
    · rw [if_neg c, if_neg c]
      exact hulF_more ho (way_step ho w (fun e => c (.inl e)) (fun e => c (.inr e))) (by simp; omega) (by omega)

/-- A polygon from its corner k on. -/
def rot (l : List Pt) (k : Nat) : List Pt := l.drop k ++ l.take k
theorem rot_len {l : List Pt} {k : Nat} (h : k ≤ l.length) : (rot l k).length = l.length := by unfold rot; simp; omega
theorem rot_vx {l : List Pt} {k i : Nat} (h : k ≤ l.length) (hi : i < l.length) : vx (rot l k) i = vx l ((i + k) % l.length) := by
  unfold rot
  rcases Nat.lt_or_ge (i + k) l.length with h1 | h1
  · rw [vx_app_l (by simp; omega), Nat.mod_eq_of_lt h1]
    unfold vx; rw [List.getD_eq_getElem?_getD, List.getD_eq_getElem?_getD, List.getElem?_drop, Nat.add_comm]
  · have e : i = (l.drop k).length + (i + k - l.length) := by simp; omega
    have e2 : (i + k) % l.length = i + k - l.length := by
      rw [Nat.mod_eq_sub_mod h1, Nat.mod_eq_of_lt (by omega)]
    rw [e2]
    conv => lhs; rw [e, vx_app_r]
    unfold vx; rw [List.getD_eq_getElem?_getD, List.getD_eq_getElem?_getD, List.getElem?_take_of_lt (by omega)]
theorem rot_nx {l : List Pt} {k i : Nat} (h : k ≤ l.length) (hi : i < l.length) : nx (rot l k) i = nx l ((i + k) % l.length) := by
  unfold nx; rw [rot_len h, rot_vx h (mod_lt' hi), Nat.mod_add_mod, Nat.mod_add_mod, Nat.add_right_comm]
theorem mod_cancel {n a b k : Nat} (ha : a < n) (hb : b < n) (hk : k ≤ n) (h : (a + k) % n = (b + k) % n) : a = b := by
  have f : ∀ a, a < n → (a + k) % n = if a + k < n then a + k else a + k - n := fun a ha => by
    split
    · rename_i h; exact Nat.mod_eq_of_lt h
    · rename_i h
      rw [Nat.mod_eq_sub_mod (by omega)]
      by_cases e : a + k - n < n
      · exact Nat.mod_eq_of_lt e
      · omega
  rw [f a ha, f b hb] at h
  split at h <;> split at h <;> omega
theorem rot_val {l : List Pt} {k : Nat} (v : Val l) (h : k ≤ l.length) : Val (rot l k) := by
  have e := rot_len h
  have := v.lo
  refine ⟨by rw [e]; exact v.lo, by rw [e]; exact v.hi, fun i hi => ?_, fun i hi j hj h1 h2 => ?_⟩
  · rw [e] at hi; rw [rot_vx h hi]; exact v.on _ (Nat.mod_lt _ (by omega))
  · rw [e] at hi hj h2
    rw [rot_vx h hi, rot_nx h hi, rot_vx h hj]
    refine v.left _ (Nat.mod_lt _ (by omega)) _ (Nat.mod_lt _ (by omega)) (fun x => h1 (mod_cancel hj hi h x)) fun x => h2 ?_
    have hm : (i + 1) % l.length < l.length := Nat.mod_lt _ (by omega)
    exact mod_cancel hj hm h (by rw [x, Nat.mod_add_mod, Nat.mod_add_mod, Nat.add_right_comm])
end Pln
