/- Plain mathematics of layer 7: the interiors of the parts of a cut. Nothing of the program. -/
import Derived.Test.YtliligehofjegaaPlnCutsG
namespace Pln
namespace CutG
variable {r : List Pt} {d : Nat}
def T (r : List Pt) (j : Nat) (p : Pt) : Int := turn (vx r j) (nx r j) p
def G (r : List Pt) (d : Nat) (p : Pt) : Int := turn (vx r d) (vx r 0) p
theorem all1 (h : CutG r d) (p : Pt) (c : Int) : (∀ i, i < (fpt r d).length → c ≤ turn (vx (fpt r d) i) (nx (fpt r d) i) p) ↔ (∀ j, j < d → c ≤ T r j p) ∧ c ≤ G r d p := by
  have dl := h.dl
  rw [h.len1]
  have e : ∀ j, j < d → turn (vx (fpt r d) j) (nx (fpt r d) j) p = T r j p := fun j hj => by
    unfold T; rw [fpt_vx (by omega), fpt_nx h.dl hj, nx_in (by omega)]
  have e' : turn (vx (fpt r d) d) (nx (fpt r d) d) p = G r d p := by rw [h.e1.1, h.e1.2]; rfl
  constructor
  · intro H
    exact ⟨fun j hj => by rw [← e j hj]; exact H j (by omega), by rw [← e']; exact H d (by omega)⟩
  · intro ⟨H1, H2⟩ i hi
    by_cases x : i = d
    · rw [x, e']; exact H2
    · rw [e i (by omega)]; exact H1 i (by omega)
theorem all2 (h : CutG r d) (p : Pt) (c : Int) : (∀ i, i < (spt r d).length → c ≤ turn (vx (spt r d) i) (nx (spt r d) i) p) ↔ (∀ j, d ≤ j → j < r.length → c ≤ T r j p) ∧ c ≤ -G r d p := by
  have dl := h.dl
  rw [h.len2]
  have e : ∀ j, j < r.length - d → turn (vx (spt r d) j) (nx (spt r d) j) p = T r (d + j) p := fun j hj => by
    unfold T; rw [spt_vx h.dl (by omega), spt_nx h.dl hj, Nat.mod_eq_of_lt (by omega)]
  have e' : turn (vx (spt r d) (r.length - d)) (nx (spt r d) (r.length - d)) p = -G r d p := by rw [h.e2.1, h.e2.2]; unfold G; rw [turn_swap]
  constructor
  · intro H
    refine ⟨fun j h1 h2 => ?_, by rw [← e']; exact H (r.length - d) (by omega)⟩
    have := H (j - d) (by omega)
    rwa [e (j - d) (by omega), show d + (j - d) = j by omega] at this
  · intro ⟨H1, H2⟩ i hi
    by_cases x : i = r.length - d
    · rw [x, e']; exact H2
    · rw [e i (by omega)]; exact H1 (d + i) (by omega) (by omega)
theorem ge1 (h : CutG r d) {p : Pt} : 0 ≤ posP (fpt r d) p ↔ (∀ j, j < d → 0 ≤ T r j p) ∧ 0 ≤ G r d p := by rw [pos_ge]; exact h.all1 p 0
theorem one1 (h : CutG r d) {p : Pt} : posP (fpt r d) p = 1 ↔ (∀ j, j < d → 0 < T r j p) ∧ 0 < G r d p := by rw [pos_one]; exact h.all1 p 1
theorem ge2 (h : CutG r d) {p : Pt} : 0 ≤ posP (spt r d) p ↔ (∀ j, d ≤ j → j < r.length → 0 ≤ T r j p) ∧ G r d p ≤ 0 := by
  rw [pos_ge]; have := h.all2 p 0; rw [this]
  exact ⟨fun x => ⟨x.1, by omega⟩, fun x => ⟨x.1, by omega⟩⟩
theorem one2 (h : CutG r d) {p : Pt} : posP (spt r d) p = 1 ↔ (∀ j, d ≤ j → j < r.length → 0 < T r j p) ∧ G r d p < 0 := by
  rw [pos_one]; have := h.all2 p 1
  refine Iff.trans this ?_
  exact ⟨fun x => ⟨fun j a b => x.1 j a b, by omega⟩, fun x => ⟨fun j a b => x.1 j a b, by omega⟩⟩
theorem oneR {p : Pt} : posP r p = 1 ↔ ∀ j, j < r.length → 0 < T r j p := pos_one
theorem split1 (h : CutG r d) {p : Pt} : ¬ (posP (fpt r d) p = 1 ∧ 0 ≤ posP (spt r d) p) := fun ⟨a, b⟩ => by
  have := (h.one1.1 a).2; have := (h.ge2.1 b).2; omega
theorem split2 (h : CutG r d) {p : Pt} : ¬ (posP (spt r d) p = 1 ∧ 0 ≤ posP (fpt r d) p) := fun ⟨a, b⟩ => by
  have := (h.one2.1 a).2; have := (h.ge1.1 b).2; omega
theorem T_corner (h : CutG r d) {j k : Nat} (hj : j < r.length) (hk : k < r.length) : 0 ≤ T r j (vx r k) := h.v.nonneg hj hk
/-- What is in the interior of a polygon whose corners are corners of r is in the interior of r. -/
theorem inner_of {q : List Pt} (v : Val r) (vq : Val q) (hs : ∀ c ∈ q, ∃ k, k < r.length ∧ c = vx r k) {p : Pt} (hp : posP q p = 1) : posP r p = 1 := by
  rw [oneR]
  intro j hj
  -- two corners of q with different values
  have key : ∃ a b, a < q.length ∧ b < q.length ∧ -(T r j (vx q a)) ≠ -(T r j (vx q b)) := by
    rcases Classical.em (∃ a b, a < q.length ∧ b < q.length ∧ -(T r j (vx q a)) ≠ -(T r j (vx q b))) with h | h
    · exact h
    · exfalso
      have q3 := vq.lo
      have same : ∀ a b, a < q.length → b < q.length → T r j (vx q a) = T r j (vx q b) := fun a b ha hb => by
        rcases Decidable.em (T r j (vx q a) = T r j (vx q b)) with e | e
        · exact e
        · exact absurd ⟨a, b, ha, hb, by omega⟩ h
      have o := vq.ordered (i := 0) (j := 1) (by omega) (k := 2) (by omega) (by omega)
      have s1 := same 1 0 (by omega) (by omega)
      have s2 := same 2 0 (by omega) (by omega)
      have hn := v.ne hj (v.nxl hj) (fun e => v.nx_ne hj e.symm)
      change vx r j ≠ nx r j at hn
      unfold T at s1 s2
      generalize vx q 0 = a at *
      generalize vx q 1 = b at *
      generalize vx q 2 = c at *
      generalize vx r j = s at *
      generalize nx r j = e at *
      -- b - a and c - a are both along s e
      have z1 : turn a b c * (e.1 - s.1) = (b.1 - a.1) * (turn s e c - turn s e a) - (c.1 - a.1) * (turn s e b - turn s e a) := by unfold turn; grind
      have z2 : turn a b c * (e.2 - s.2) = (b.2 - a.2) * (turn s e c - turn s e a) - (c.2 - a.2) * (turn s e b - turn s e a) := by unfold turn; grind
      rw [s1, s2, Int.sub_self, Int.mul_zero, Int.mul_zero, Int.sub_zero] at z1 z2
      rcases Int.mul_eq_zero.1 z1 with z1 | z1
      · omega
      · rcases Int.mul_eq_zero.1 z2 with z2 | z2
        · omega
        · exact hn (Prod.ext (by omega) (by omega))
  obtain ⟨a, b, ha, hb, hab⟩ := key
  obtain ⟨i, hi, hlt⟩ := support_strict vq (aff_neg (aff_turn (vx r j) (nx r j))) (pos_one.1 hp) ha hb hab
  obtain ⟨k, hk, e⟩ := hs _ (vx_mem hi)
  have := v.nonneg hj hk
  rw [← e] at this
  unfold T; omega
theorem sub1 (h : CutG r d) : ∀ c ∈ fpt r d, ∃ k, k < r.length ∧ c = vx r k := fun c hc => by
  obtain ⟨j, hj, e⟩ := h.mem1 hc; exact ⟨j, by have := h.dl; omega, e⟩
theorem sub2 (h : CutG r d) : ∀ c ∈ spt r d, ∃ k, k < r.length ∧ c = vx r k := fun c hc => by
  obtain ⟨j, hj, _, e⟩ := h.mem2 hc; exact ⟨j, hj, e⟩
/-- A corner that is no end of an edge, strictly. -/
theorem T_pos (h : CutG r d) {j k : Nat} (hj : j < r.length) (hk : k < r.length) (h1 : k ≠ j) (h2 : k ≠ (j + 1) % r.length) : 0 < T r j (vx r k) := h.v.left j hj k hk h1 h2
theorem diag_in (h : CutG r d) {p : Pt} (a : 0 ≤ posP (fpt r d) p) (b : 0 ≤ posP (spt r d) p) (n0 : p ≠ vx r 0) (nd : p ≠ vx r d) : posP r p = 1 := by
  have d2 := h.d2
  have dn := h.dn
  obtain ⟨a1, a2⟩ := h.ge1.1 a
  obtain ⟨b1, b2⟩ := h.ge2.1 b
  have hg : G r d p = 0 := by omega
  have hg' : turn (vx r 0) (vx r d) p = 0 := by rw [turn_swap]; unfold G at hg; omega
  -- the first edge
  have f0 : T r 0 (vx r 0) = 0 := turn_l _ _
  have fd : 0 < T r 0 (vx r d) := h.T_pos (by omega) (by omega) (by omega) (by rw [Nat.mod_eq_of_lt (by omega)]; omega)
  have fp : 0 < T r 0 p := by
    rcases Int.lt_or_eq_of_le (a1 0 (by omega)) with x | x
    · exact x
    · exfalso
      refine n0 (meet_at (o := vx r 0) (b := nx r 0) (c := vx r d) (fun e => ?_) x.symm hg')
      have : T r 0 (vx r d) = 0 := e
      omega
  have kd : T r (d - 1) (vx r d) = 0 := by
    have : nx r (d - 1) = vx r d := by rw [nx_in (by omega), show d - 1 + 1 = d by omega]
    unfold T; rw [this, turn_r]
  have k0 : 0 < T r (d - 1) (vx r 0) := h.T_pos (by omega) (by omega) (by omega) (by rw [Nat.mod_eq_of_lt (by omega)]; omega)
  have L := on_line (f := T r 0) (k := T r (d - 1)) (aff_turn _ _) (aff_turn _ _) hg'
  rw [kd, f0] at L
  have kp : 0 < T r (d - 1) p := by
    rcases Int.lt_or_eq_of_le (a1 (d - 1) (by omega)) with x | x
    · exact x
    · exfalso
      have hnx : nx r (d - 1) = vx r d := by rw [nx_in (by omega), show d - 1 + 1 = d by omega]
      refine nd (meet_at (o := vx r d) (b := vx r (d - 1)) (c := vx r 0) (fun e => ?_) ?_ ?_)
      · unfold T at k0; rw [hnx, turn_swap, e] at k0; omega
      · have := x; unfold T at this; rw [hnx, turn_swap] at this; omega
      · exact hg
  have up : 0 < T r 0 (vx r d) - T r 0 p := by
    have m : 0 < T r (d - 1) p * (T r 0 (vx r d) - 0) := Int.mul_pos kp (by omega)
    have : 0 < T r (d - 1) (vx r 0) * (T r 0 (vx r d) - T r 0 p) := by rw [Int.zero_mul, Int.add_zero] at L; omega
    exact pos_of_mul k0 this
  rw [oneR]
  intro j hj
  have L2 := on_line (f := T r 0) (k := T r j) (aff_turn _ _) (aff_turn _ _) hg'
  rw [f0] at L2
  have c0 := h.T_corner hj (k := 0) (by omega)
  have cd := h.T_corner hj (k := d) (by omega)
  have some : 0 < T r j (vx r 0) ∨ 0 < T r j (vx r d) := by
    by_cases x0 : 0 = j ∨ 0 = (j + 1) % r.length
    · right
      refine h.T_pos hj (by omega) ?_ ?_
      · rcases x0 with x0 | x0
        · omega
        · intro e; rw [← e, Nat.mod_eq_of_lt (by omega)] at x0; omega
      · rcases x0 with x0 | x0
        · rw [← x0, Nat.mod_eq_of_lt (by omega)]; omega
        · omega
    · left; exact h.T_pos hj (by omega) (fun e => x0 (.inl e)) (fun e => x0 (.inr e))
  have m1 := Int.mul_nonneg c0 (Int.le_of_lt up)
  have m2 := Int.mul_nonneg cd (by omega : 0 ≤ T r 0 p - 0)
  have m3 : 0 < T r j p * (T r 0 (vx r d) - 0) := by
    rcases some with x | x
    · have := Int.mul_pos x up; omega
    · have := Int.mul_pos x (by omega : 0 < T r 0 p - 0); omega
  rw [Int.mul_comm] at m3
  exact pos_of_mul (by omega) m3
theorem inner (h : CutG r d) (v2 : Val (spt r d)) {p : Pt} : posP r p = 1 ↔ posP (fpt r d) p = 1 ∨ posP (spt r d) p = 1 ∨ (posP (fpt r d) p = 0 ∧ posP (spt r d) p = 0 ∧ p ≠ vx r 0 ∧ p ≠ vx r d) := by
  have d2 := h.d2
  have dn := h.dn
  constructor
  · intro H
    have H' := oneR.1 H
    rcases Int.lt_trichotomy (G r d p) 0 with g | g | g
    · exact .inr (.inl (h.one2.2 ⟨fun j _ hj => H' j hj, g⟩))
    · refine .inr (.inr ⟨?_, ?_, ?_, ?_⟩)
      · have x := h.ge1.2 ⟨fun j hj => Int.le_of_lt (H' j (by omega)), by omega⟩
        have y : posP (fpt r d) p ≠ 1 := fun e => by have := (h.one1.1 e).2; omega
        have := pos_cases (fpt r d) p; omega
      · have x := h.ge2.2 ⟨fun j _ hj => Int.le_of_lt (H' j hj), by omega⟩
        have y : posP (spt r d) p ≠ 1 := fun e => by have := (h.one2.1 e).2; omega
        have := pos_cases (spt r d) p; omega
      · intro e; have := H' 0 (by omega); unfold T at this; rw [e, turn_l] at this; omega
      · intro e; have := H' d (by omega); unfold T at this; rw [e, turn_l] at this; omega
    · exact .inl (h.one1.2 ⟨fun j hj => H' j (by omega), g⟩)
  · rintro (H | H | ⟨a, b, n0, nd⟩)
    · exact inner_of h.v h.val1 h.sub1 H
    · exact inner_of h.v v2 h.sub2 H
    · exact h.diag_in (by omega) (by omega) n0 nd
/-- A polygon whose corners are corners of r overlaps r. -/
theorem meet_sub {q : List Pt} (v : Val r) (vq : Val q) (hs : ∀ c ∈ q, ∃ k, k < r.length ∧ c = vx r k) : Meet q r := by
  constructor
  · intro j hj
    obtain ⟨k, hk, h1, h2⟩ := vq.third j ((j + 1) % q.length)
    obtain ⟨m, hm, e⟩ := hs _ (vx_mem hk)
    exact sepB_no.2 ⟨vx r m, vx_mem hm, by rw [← e]; exact vq.left j hj k hk h1 h2⟩
  · intro j hj
    have q3 := vq.lo
    obtain ⟨m0, hm0, e0⟩ := hs _ (vx_mem (show 0 < q.length by omega))
    obtain ⟨m1, hm1, e1⟩ := hs _ (vx_mem (show 1 < q.length by omega))
    obtain ⟨m2, hm2, e2⟩ := hs _ (vx_mem (show 2 < q.length by omega))
    have n01 : m0 ≠ m1 := fun e => vq.ne (show 0 < q.length by omega) (show 1 < q.length by omega) (by omega) (by rw [e0, e1, e])
    have n02 : m0 ≠ m2 := fun e => vq.ne (show 0 < q.length by omega) (show 2 < q.length by omega) (by omega) (by rw [e0, e2, e])
    have n12 : m1 ≠ m2 := fun e => vq.ne (show 1 < q.length by omega) (show 2 < q.length by omega) (by omega) (by rw [e1, e2, e])
    by_cases x0 : m0 ≠ j ∧ m0 ≠ (j + 1) % r.length
    · exact sepB_no.2 ⟨vx q 0, vx_mem (by omega), by rw [e0]; exact v.left j hj m0 hm0 x0.1 x0.2⟩
    · by_cases x1 : m1 ≠ j ∧ m1 ≠ (j + 1) % r.length
      · exact sepB_no.2 ⟨vx q 1, vx_mem (by omega), by rw [e1]; exact v.left j hj m1 hm1 x1.1 x1.2⟩
      · exact sepB_no.2 ⟨vx q 2, vx_mem (by omega), by rw [e2]; exact v.left j hj m2 hm2 (by omega) (by omega)⟩
end CutG
/-- Where a polygon begins plays no part. -/
theorem rot_pos {l : List Pt} {k : Nat} (h : k < l.length) (p : Pt) : posP (rot l k) p = posP l p := by
  have hr : (rot l k).length = l.length := rot_len (by omega)
  have back : ∀ j, j < l.length → ∃ i, i < l.length ∧ (i + k) % l.length = j := fun j hj =>
    ⟨(j + (l.length - k)) % l.length, Nat.mod_lt _ (by omega), by rw [Nat.mod_add_mod, show j + (l.length - k) + k = j + l.length by omega, Nat.add_mod_right, Nat.mod_eq_of_lt hj]⟩
  have K : ∀ c : Int, (∀ i, i < (rot l k).length → c ≤ turn (vx (rot l k) i) (nx (rot l k) i) p) ↔ ∀ i, i < l.length → c ≤ turn (vx l i) (nx l i) p := fun c => by
    rw [hr]
    constructor
    · intro H j hj
      obtain ⟨i, hi, e⟩ := back j hj
      have := H i hi
      rwa [rot_vx (by omega) hi, rot_nx (by omega) hi, e] at this
    · intro H i hi
      rw [rot_vx (by omega) hi, rot_nx (by omega) hi]
      exact H _ (Nat.mod_lt _ (by omega))
  have h0 : 0 ≤ posP (rot l k) p ↔ 0 ≤ posP l p := by rw [pos_ge, pos_ge]; exact K 0
  have h1 : posP (rot l k) p = 1 ↔ posP l p = 1 := by rw [pos_one, pos_one]; exact K 1
  have c1 := pos_cases (rot l k) p
  have c2 := pos_cases l p
  omega
theorem rot_mem {l : List Pt} {k : Nat} {c : Pt} : c ∈ rot l k ↔ c ∈ l := by
  unfold rot
  rw [List.mem_append, or_comm, ← List.mem_append, List.take_append_drop]
/-- All that is said of a cut. -/
structure CutAll (l : List Pt) (i k : Nat) (a b : List Pt) : Prop where
  va : Val a
  vb : Val b
  len : a.length + b.length = l.length + 2
  over : overP a b = false
  seam : seamP a b = some (vx l k, vx l i)
  sum : ∀ F : Pt → Pt → Int, (∀ p q, F p q + F q p = 0) → sumE a F a.length + sumE b F b.length = sumE l F l.length
  apart1 : ∀ p, ¬ (posP a p = 1 ∧ 0 ≤ posP b p)
  apart2 : ∀ p, ¬ (posP b p = 1 ∧ 0 ≤ posP a p)
  inner : ∀ p, posP l p = 1 ↔ posP a p = 1 ∨ posP b p = 1 ∨ (posP a p = 0 ∧ posP b p = 0 ∧ p ≠ vx l i ∧ p ≠ vx l k)
  over1 : overP a l = true
  over2 : overP l b = true
theorem cut_all {l : List Pt} (v : Val l) {i k : Nat} (hi : i < l.length) (hk : k < l.length) (h : ¬ AdjP l.length i k) : ∃ a b, cutP l i k = some (a, b) ∧ CutAll l i k a b := by
  rcases cut_parts v hi hk with ⟨x, _⟩ | ⟨_, d, d2, dn, hm, hc⟩
  · exact absurd x h
  · have hr : (rot l i).length = l.length := rot_len (by omega)
    have g : CutG (rot l i) d := ⟨rot_val v (by omega), d2, by rw [hr]; exact dn⟩
    have v2 := (cut_val hc).2
    have e0 : vx (rot l i) 0 = vx l i := by rw [rot_vx (by omega) (by omega), Nat.zero_add, Nat.mod_eq_of_lt hi]
    have ed : vx (rot l i) d = vx l k := by rw [rot_vx (by omega) (by omega), Nat.add_comm, hm]
    have s1 : ∀ c ∈ fpt (rot l i) d, ∃ k, k < l.length ∧ c = vx l k := fun c hc => by
      obtain ⟨j, hj, e⟩ := g.sub1 c hc
      have hx : c ∈ l := rot_mem.1 (by rw [e]; exact vx_mem hj)
      obtain ⟨m, hm, e⟩ := mem_vx hx; exact ⟨m, hm, e.symm⟩
    have s2 : ∀ c ∈ spt (rot l i) d, ∃ k, k < l.length ∧ c = vx l k := fun c hc => by
      obtain ⟨j, hj, e⟩ := g.sub2 c hc
      have hx : c ∈ l := rot_mem.1 (by rw [e]; exact vx_mem hj)
      obtain ⟨m, hm, e⟩ := mem_vx hx; exact ⟨m, hm, e.symm⟩
    refine ⟨_, _, hc, ⟨g.val1, v2, by rw [g.len1, g.len2, hr]; omega, g.over v2, by rw [g.seam v2, e0, ed], fun F hF => ?_, fun p => g.split1, fun p => g.split2, fun p => ?_, ?_, ?_⟩⟩
    · rw [g.len1, g.len2, sum_parts g.dl hF, hr, sum_rot l (by omega)]
    · rw [← rot_pos hi p, g.inner v2, e0, ed]
    · rw [over_iff ((valB_iff _).2 g.val1) ((valB_iff _).2 v)]; exact CutG.meet_sub v g.val1 s1
    · rw [over_comm ((valB_iff _).2 v) ((valB_iff _).2 v2), over_iff ((valB_iff _).2 v2) ((valB_iff _).2 v)]; exact CutG.meet_sub v v2 s2
end Pln
