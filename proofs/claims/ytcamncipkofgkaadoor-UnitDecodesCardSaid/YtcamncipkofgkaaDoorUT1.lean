/- Several texts of layers 7 and 8, one behind the other: PlnSeamP, UntTouP, UntRegD. -/
import Derived.Test.YtcamncipkofgkaaDoorUM10
/- PlnSeamP: Plain mathematics of layer 7: what a seam is. Nothing of the program. -/
namespace Pln
open CutG

theorem two_vals {q : List Pt} (vq : Val q) {s e : Pt} (hn : s ≠ e) : ∃ a b, a < q.length ∧ b < q.length ∧ turn s e (vx q a) ≠ turn s e (vx q b) := by
  rcases Classical.em (∃ a b, a < q.length ∧ b < q.length ∧ turn s e (vx q a) ≠ turn s e (vx q b)) with h | h
  · exact h
  · exfalso
    have q3 := vq.lo
    have same : ∀ a b, a < q.length → b < q.length → turn s e (vx q a) = turn s e (vx q b) := fun a b ha hb => by
      rcases Decidable.em (turn s e (vx q a) = turn s e (vx q b)) with e | e
      · exact e
      · exact absurd ⟨a, b, ha, hb, e⟩ h
    have o := vq.ordered (i := 0) (j := 1) (by omega) (k := 2) (by omega) (by omega)
    have s1 := same 1 0 (by omega) (by omega)
    have s2 := same 2 0 (by omega) (by omega)
    generalize vx q 0 = a at *
    generalize vx q 1 = b at *
    generalize vx q 2 = c at *
    have z1 : turn a b c * (e.1 - s.1) = (b.1 - a.1) * (turn s e c - turn s e a) - (c.1 - a.1) * (turn s e b - turn s e a) := by unfold turn; grind
    have z2 : turn a b c * (e.2 - s.2) = (b.2 - a.2) * (turn s e c - turn s e a) - (c.2 - a.2) * (turn s e b - turn s e a) := by unfold turn; grind
    rw [s1, s2, Int.sub_self, Int.mul_zero, Int.mul_zero, Int.sub_zero] at z1 z2
    rcases Int.mul_eq_zero.1 z1 with z1 | z1
    · omega
    · rcases Int.mul_eq_zero.1 z2 with z2 | z2
      · omega
      · exact hn (Prod.ext (by omega) (by omega))
/-- A line between two polygons. -/
structure Sepd (a b : List Pt) (s e : Pt) : Prop where
  va : Val a
  vb : Val b
  ne : s ≠ e
  ha : ∀ c ∈ a, 0 ≤ turn s e c
  hb : ∀ c ∈ b, turn s e c ≤ 0
theorem sepd_swap {a b : List Pt} {s e : Pt} (h : Sepd a b s e) : Sepd b a e s :=
  ⟨h.vb, h.va, fun x => h.ne x.symm, fun c hc => by have := h.hb c hc; rw [turn_swap]; omega, fun c hc => by have := h.ha c hc; rw [turn_swap]; omega⟩
theorem edge_ne {l : List Pt} (v : Val l) {i : Nat} (hi : i < l.length) : vx l i ≠ nx l i := v.ne hi (v.nxl hi) (fun x => v.nx_ne hi x.symm)
theorem sepd_of {a b : List Pt} (va : Val a) (vb : Val b) (h : sideP a b ≠ none) : ∃ s e, Sepd a b s e := by
  have hn : ¬ Meet a b := fun m => h ((side_none ((valB_iff _).2 va) ((valB_iff _).2 vb)).2 m)
  rcases Classical.em (∃ j, j < a.length ∧ sepB a b j = true) with ⟨j, hj, x⟩ | x
  · refine ⟨vx a j, nx a j, va, vb, edge_ne va hj, fun c hc => ?_, fun c hc => sepB_iff.1 x c hc⟩
    obtain ⟨k, hk, rfl⟩ := mem_vx hc; exact va.nonneg hj hk
  · rcases Classical.em (∃ j, j < b.length ∧ sepB b a j = true) with ⟨j, hj, y⟩ | y
    · refine ⟨nx b j, vx b j, sepd_swap ⟨vb, va, edge_ne vb hj, fun c hc => ?_, fun c hc => sepB_iff.1 y c hc⟩⟩
      obtain ⟨k, hk, rfl⟩ := mem_vx hc; exact vb.nonneg hj hk
    · refine absurd ⟨fun j hj => ?_, fun j hj => ?_⟩ hn
      · rcases e : sepB a b j with _ | _
        · rfl
        · exact absurd ⟨j, hj, e⟩ x
      · rcases e : sepB b a j with _ | _
        · rfl
        · exact absurd ⟨j, hj, e⟩ y
def Both (a b : List Pt) (p : Pt) : Prop := 0 ≤ posP a p ∧ 0 ≤ posP b p
theorem in_ge {l : List Pt} (v : Val l) {s e : Pt} (h : ∀ c ∈ l, 0 ≤ turn s e c) {p : Pt} (hp : 0 ≤ posP l p) : 0 ≤ turn s e p := by
  obtain ⟨i, hi, hle⟩ := v.support (aff_neg (aff_turn s e)) (pos_ge.1 hp)
  have := h _ (vx_mem hi)
  omega
namespace Sepd
variable {a b : List Pt} {s e : Pt}
theorem zero (h : Sepd a b s e) {p : Pt} (hp : Both a b p) : turn s e p = 0 := by
  have h1 := in_ge h.va h.ha hp.1
  have h2 := in_ge h.vb (sepd_swap h).ha hp.2
  rw [turn_swap] at h2
  omega
theorem col {s e : Pt} (hn : s ≠ e) {p q r : Pt} (hp : turn s e p = 0) (hq : turn s e q = 0) (hr : turn s e r = 0) : turn p q r = 0 := by
  have z1 : turn p q r * (e.1 - s.1) = (q.1 - p.1) * (turn s e r - turn s e p) - (r.1 - p.1) * (turn s e q - turn s e p) := by unfold turn; grind
  have z2 : turn p q r * (e.2 - s.2) = (q.2 - p.2) * (turn s e r - turn s e p) - (r.2 - p.2) * (turn s e q - turn s e p) := by unfold turn; grind
  rw [hp, hq, hr, Int.sub_self, Int.mul_zero, Int.mul_zero, Int.sub_zero] at z1 z2
  rcases Int.mul_eq_zero.1 z1 with z1 | z1
  · exact z1
  · rcases Int.mul_eq_zero.1 z2 with z2 | z2
    · exact z2
    · exact absurd (Prod.ext (by omega) (by omega)) hn
end Sepd
/-- How far along. -/
def al (P Q p : Pt) : Int := (p.1 - P.1) * (Q.1 - P.1) + (p.2 - P.2) * (Q.2 - P.2)
theorem aff_al (P Q : Pt) : Aff (al P Q) := ⟨Q.1 - P.1, Q.2 - P.2, -(P.1 * (Q.1 - P.1) + P.2 * (Q.2 - P.2)), fun p => by unfold al; grind⟩
theorem al_l (P Q : Pt) : al P Q P = 0 := by unfold al; grind
theorem al_pos {P Q : Pt} (h : P ≠ Q) : 0 < al P Q Q := by
  have := far_pos h
  have e : al P Q Q = far P Q := by unfold al far; grind
  omega
theorem aff_x : Aff (fun p : Pt => p.1) := ⟨1, 0, 0, fun p => by omega⟩
theorem aff_y : Aff (fun p : Pt => p.2) := ⟨0, 1, 0, fun p => by omega⟩
def SegP (P Q p : Pt) : Prop := turn P Q p = 0 ∧ 0 ≤ al P Q p ∧ al P Q p ≤ al P Q Q
def segB (P Q p : Pt) : Bool := decide (turn P Q p = 0) && decide (min P.1 Q.1 ≤ p.1) && decide (p.1 ≤ max P.1 Q.1) && decide (min P.2 Q.2 ≤ p.2) && decide (p.2 ≤ max P.2 Q.2)
theorem mul_betw {x y z : Int} (h1 : min x z ≤ y) (h2 : y ≤ max x z) : 0 ≤ (y - x) * (z - x) ∧ 0 ≤ (z - y) * (z - x) := by
  rcases Int.le_total x z with h | h
  · exact ⟨Int.mul_nonneg (by omega) (by omega), Int.mul_nonneg (by omega) (by omega)⟩
  · have e1 : (y - x) * (z - x) = (x - y) * (x - z) := by grind
    have e2 : (z - y) * (z - x) = (y - z) * (x - z) := by grind
    rw [e1, e2]
    exact ⟨Int.mul_nonneg (by omega) (by omega), Int.mul_nonneg (by omega) (by omega)⟩
theorem betw_of {D x y z t : Int} (hD : 0 < D) (h0 : 0 ≤ t) (h1 : t ≤ D) (e : y * D = x * (D - t) + z * (t - 0)) : min x z ≤ y ∧ y ≤ max x z := by
  rcases Int.le_total x z with h | h
  · have m1 := Int.mul_nonneg (by omega : 0 ≤ z - x) h0
    have m2 := Int.mul_nonneg (by omega : 0 ≤ z - x) (by omega : 0 ≤ D - t)
    have n1 : 0 ≤ D * (y - x) := by have : D * (y - x) = (z - x) * t := by grind
                                    omega
    have n2 : 0 ≤ D * (z - y) := by have : D * (z - y) = (z - x) * (D - t) := by grind
                                    omega
    have := nonneg_of_mul hD n1; have := nonneg_of_mul hD n2; omega
  · have m1 := Int.mul_nonneg (by omega : 0 ≤ x - z) h0
    have m2 := Int.mul_nonneg (by omega : 0 ≤ x - z) (by omega : 0 ≤ D - t)
    have n1 : 0 ≤ D * (x - y) := by have : D * (x - y) = (x - z) * t := by grind
                                    omega
    have n2 : 0 ≤ D * (y - z) := by have : D * (y - z) = (x - z) * (D - t) := by grind
                                    omega
    have := nonneg_of_mul hD n1; have := nonneg_of_mul hD n2; omega
theorem seg_iff {P Q p : Pt} (hn : P ≠ Q) : segB P Q p = true ↔ SegP P Q p := by
  unfold segB SegP
  simp only [Bool.and_eq_true, decide_eq_true_eq]
  constructor
  · rintro ⟨⟨⟨⟨h0, h1⟩, h2⟩, h3⟩, h4⟩
    obtain ⟨a1, a2⟩ := mul_betw h1 h2
    obtain ⟨b1, b2⟩ := mul_betw h3 h4
    refine ⟨h0, by unfold al; omega, ?_⟩
    have : al P Q Q - al P Q p = (Q.1 - p.1) * (Q.1 - P.1) + (Q.2 - p.2) * (Q.2 - P.2) := by unfold al; grind
    omega
  · rintro ⟨h0, h1, h2⟩
    have hD := al_pos hn
    have ex := on_line (f := al P Q) (k := fun p => p.1) (aff_al P Q) aff_x h0
    have ey := on_line (f := al P Q) (k := fun p => p.2) (aff_al P Q) aff_y h0
    rw [al_l, Int.sub_zero] at ex ey
    obtain ⟨x1, x2⟩ := betw_of hD h1 h2 ex
    obtain ⟨y1, y2⟩ := betw_of hD h1 h2 ey
    exact ⟨⟨⟨⟨h0, x1⟩, x2⟩, y1⟩, y2⟩
/-- Nothing of a polygon goes on behind a corner, on a line. -/
theorem corner_fn {l : List Pt} (v : Val l) {i : Nat} (hi : i < l.length) : ∃ F : Pt → Int, Aff F ∧ F (vx l i) = 0 ∧ ∀ p, 0 ≤ posP l p → p ≠ vx l i → 0 < F p := by
  refine ⟨fun p => turn (vx l i) (nx l i) p + turn (vx l (Val.pre l i)) (vx l i) p, aff_add (aff_turn _ _) (aff_turn _ _), by dsimp only; rw [turn_l, turn_r]; rfl, fun p hp hne => ?_⟩
  dsimp only
  have h1 := pos_ge.1 hp i hi
  have h2 := pos_ge.1 hp (Val.pre l i) (v.pre_lt i)
  rw [v.nx_pre hi] at h2
  rcases Int.lt_or_le 0 (turn (vx l i) (nx l i) p + turn (vx l (Val.pre l i)) (vx l i) p) with h | h
  · exact h
  · exfalso
    have hc := v.corner hi
    refine hne (meet_at (o := vx l i) (b := nx l i) (c := vx l (Val.pre l i)) ?_ (by omega) (by rw [turn_swap]; omega))
    rw [turn_rot, turn_rot]
    rw [turn_rot] 
    intro e
    first
    | omega
    | (rw [turn_rot] at e; omega)
    | (rw [turn_rot, turn_rot] at e; omega)
theorem no_behind {l : List Pt} (v : Val l) {o p q : Pt} (ho : o ∈ l) (hp : 0 ≤ posP l p) (hq : 0 ≤ posP l q) {f : Pt → Int} (hf : Aff f) (hc : turn p q o = 0) (h1 : f p < f o) (h2 : f o < f q) : False := by
  obtain ⟨i, hi, rfl⟩ := mem_vx ho
  obtain ⟨F, hF, h0, hpos⟩ := corner_fn v hi
  have e := on_line hf hF hc
  have a := hpos p hp (fun x => by rw [x] at h1; omega)
  have b := hpos q hq (fun x => by rw [x] at h2; omega)
  rw [h0, Int.zero_mul] at e
  have m1 := Int.mul_pos a (by omega : 0 < f q - f (vx l i))
  have m2 := Int.mul_pos b (by omega : 0 < f (vx l i) - f p)
  omega
theorem conv {l : List Pt} {P Q p : Pt} (hn : P ≠ Q) (hP : 0 ≤ posP l P) (hQ : 0 ≤ posP l Q) (h : SegP P Q p) : 0 ≤ posP l p := by
  rw [pos_ge]
  intro i hi
  have e := on_line (f := al P Q) (aff_al P Q) (aff_turn (vx l i) (nx l i)) h.1
  have a := pos_ge.1 hP i hi
  have b := pos_ge.1 hQ i hi
  have hD := al_pos hn
  rw [al_l, Int.sub_zero] at e
  have m1 := Int.mul_nonneg a (by have := h.2.2; omega : 0 ≤ al P Q Q - al P Q p)
  have m2 := Int.mul_nonneg b (by have := h.2.1; omega : 0 ≤ al P Q p - 0)
  rw [Int.mul_comm] at e
  exact nonneg_of_mul hD (by omega)
/-- A corner that both have. -/
def Comn (a b : List Pt) (c : Pt) : Prop := (c ∈ a ∨ c ∈ b) ∧ Both a b c
theorem com_iff {a b : List Pt} {c : Pt} : c ∈ comP a b ↔ Comn a b c := by
  unfold comP Comn Both
  rw [List.mem_filter, List.mem_append]
  simp
theorem comn_swap {a b : List Pt} {c : Pt} (h : Comn a b c) : Comn b a c := ⟨h.1.symm, h.2.2, h.2.1⟩
theorem comn_behind {a b : List Pt} (va : Val a) (vb : Val b) {o p q : Pt} (ho : Comn a b o) (hp : Both a b p) (hq : Both a b q) {f : Pt → Int} (hf : Aff f) (hc : turn p q o = 0) (h1 : f p < f o) (h2 : f o < f q) : False := by
  rcases ho.1 with h | h
  · exact no_behind va h hp.1 hq.1 hf hc h1 h2
  · exact no_behind vb h hp.2 hq.2 hf hc h1 h2
theorem both_seg {a b : List Pt} {s e P Q : Pt} (h : Sepd a b s e) (hn : P ≠ Q) (hP : Comn a b P) (hQ : Comn a b Q) (p : Pt) : Both a b p ↔ SegP P Q p := by
  constructor
  · intro hp
    have c0 : turn P Q p = 0 := Sepd.col h.ne (h.zero hP.2) (h.zero hQ.2) (h.zero hp)
    have hD := al_pos hn
    refine ⟨c0, ?_, ?_⟩
    · rcases Int.lt_or_le (al P Q p) 0 with x | x
      · exact (comn_behind h.va h.vb hP hp hQ.2 (aff_al P Q) (Sepd.col h.ne (h.zero hp) (h.zero hQ.2) (h.zero hP.2)) (by rw [al_l]; exact x) (by rw [al_l]; exact hD)).elim
      · exact x
    · rcases Int.lt_or_le (al P Q Q) (al P Q p) with x | x
      · exact (comn_behind h.va h.vb hQ hP.2 hp (aff_al P Q) (Sepd.col h.ne (h.zero hP.2) (h.zero hp) (h.zero hQ.2)) (by rw [al_l]; exact hD) x).elim
      · exact x
  · intro hp
    exact ⟨conv hn hP.2.1 hQ.2.1 hp, conv hn hP.2.2 hQ.2.2 hp⟩
/-- There are no three. -/
theorem comn_two {a b : List Pt} {s e P Q c : Pt} (h : Sepd a b s e) (hn : P ≠ Q) (hP : Comn a b P) (hQ : Comn a b Q) (hc : Comn a b c) : c = P ∨ c = Q := by
  have hs := (both_seg h hn hP hQ c).1 hc.2
  have hD := al_pos hn
  have line : ∀ r : Pt, al P Q r = al P Q c → turn P Q r = 0 → c = r := fun r hr h0 => by
    have ex := on_line (f := al P Q) (k := fun p => p.1) (aff_al P Q) aff_x hs.1
    have ey := on_line (f := al P Q) (k := fun p => p.2) (aff_al P Q) aff_y hs.1
    have fx := on_line (f := al P Q) (k := fun p => p.1) (aff_al P Q) aff_x h0
    have fy := on_line (f := al P Q) (k := fun p => p.2) (aff_al P Q) aff_y h0
    rw [al_l, Int.sub_zero] at ex ey fx fy
    rw [hr] at fx fy
    exact Prod.ext (Int.eq_of_mul_eq_mul_right (Int.ne_of_gt hD) (by omega)) (Int.eq_of_mul_eq_mul_right (Int.ne_of_gt hD) (by omega))
  by_cases x : al P Q c = 0
  · left; exact line P (by rw [al_l, x]) (turn_l _ _)
  · by_cases y : al P Q c = al P Q Q
    · right; exact line Q y.symm (turn_r _ _)
    · exact (comn_behind h.va h.vb hc hP.2 hQ.2 (aff_al P Q) hs.1 (by rw [al_l]; have := hs.2.1; omega) (by have := hs.2.2; omega)).elim
/-- On which side of the seam the first one is. -/
theorem prop_line {s e P Q : Pt} (hP : turn s e P = 0) (hQ : turn s e Q = 0) (x y : Pt) : turn P Q x * turn s e y = turn P Q y * turn s e x := by
  have e1 : turn P Q x * turn s e y - turn P Q y * turn s e x = (turn s e P) * (turn Q x y) * 1 - (turn s e Q) * (turn P x y) * 1 := by unfold turn; grind
  rw [hP, hQ, Int.zero_mul, Int.zero_mul] at e1
  omega
/-- What a seam is. -/
structure SeamI (a b : List Pt) (P Q : Pt) : Prop where
  sep : ∃ s e, Sepd a b s e
  ne : P ≠ Q
  cP : Comn a b P
  cQ : Comn a b Q
  left : ∀ c ∈ a, 0 ≤ turn P Q c
  right : ∀ c ∈ b, turn P Q c ≤ 0
  some1 : ∃ c ∈ a, 0 < turn P Q c
  some2 : ∃ c ∈ b, turn P Q c < 0
theorem strict_a {a b : List Pt} {s e P Q : Pt} (h : Sepd a b s e) (hn : P ≠ Q) (hP : turn s e P = 0) (hQ : turn s e Q = 0) : ∃ c ∈ a, 0 < turn s e c ∧ turn P Q c ≠ 0 := by
  obtain ⟨i, j, hi, hj, hne⟩ := two_vals h.va h.ne
  have K : ∀ c ∈ a, turn s e c ≠ 0 → ∃ c ∈ a, 0 < turn s e c ∧ turn P Q c ≠ 0 := fun c hc hx => by
    have h0 := h.ha c hc
    refine ⟨c, hc, by omega, fun hz => ?_⟩
    obtain ⟨m, n, hm, hn', hne'⟩ := two_vals h.va hn
    have e1 := prop_line hP hQ (vx a m) c
    have e2 := prop_line hP hQ (vx a n) c
    rw [hz, Int.zero_mul] at e1 e2
    rcases Int.mul_eq_zero.1 e1 with e1 | e1
    · rcases Int.mul_eq_zero.1 e2 with e2 | e2
      · omega
      · omega
    · omega
  by_cases x : turn s e (vx a i) = 0
  · exact K _ (vx_mem hj) (by omega)
  · exact K _ (vx_mem hi) x
theorem seamI_of {a b : List Pt} {s e P Q : Pt} (h : Sepd a b s e) (hn : P ≠ Q) (hP : Comn a b P) (hQ : Comn a b Q) : (SeamI a b P Q ∧ ∃ c ∈ a, 0 < turn P Q c) ∨ (SeamI a b Q P ∧ ¬ ∃ c ∈ a, 0 < turn P Q c) := by
  have zP := h.zero hP.2
  have zQ := h.zero hQ.2
  obtain ⟨y, hy, y0, y1⟩ := strict_a h hn zP zQ
  have hs := sepd_swap h
  have zP' : turn e s P = 0 := by rw [turn_swap]; omega
  have zQ' : turn e s Q = 0 := by rw [turn_swap]; omega
  obtain ⟨z, hz, z0, z1⟩ := strict_a hs hn zP' zQ'
  rw [turn_swap] at z0
  have L : ∀ c, turn P Q c * turn s e y = turn P Q y * turn s e c := fun c => prop_line zP zQ c y
  have eqz := L z
  by_cases hy1 : 0 < turn P Q y
  · left
    refine ⟨⟨⟨s, e, h⟩, hn, hP, hQ, fun c hc => ?_, fun c hc => ?_, ⟨y, hy, hy1⟩, ⟨z, hz, ?_⟩⟩, y, hy, hy1⟩
    · have m := Int.mul_nonneg (Int.le_of_lt hy1) (h.ha c hc)
      have ec := L c
      rw [Int.mul_comm] at ec
      exact nonneg_of_mul y0 (by omega)
    · have m := Int.mul_nonneg (Int.le_of_lt hy1) (by have := h.hb c hc; omega : 0 ≤ -turn s e c)
      have ec := L c
      rw [Int.mul_neg] at m
      have : 0 ≤ turn s e y * (-turn P Q c) := by rw [Int.mul_neg, Int.mul_comm]; omega
      have := nonneg_of_mul y0 this
      omega
    · have m := Int.mul_pos hy1 (by omega : 0 < -turn s e z)
      rw [Int.mul_neg] at m
      have : 0 < turn s e y * (-turn P Q z) := by rw [Int.mul_neg, Int.mul_comm]; omega
      have := pos_of_mul y0 this
      omega
  · right
    have hy2 : turn P Q y < 0 := by omega
    have low : ∀ c ∈ a, turn P Q c ≤ 0 := fun c hc => by
      have m := Int.mul_nonneg (by omega : 0 ≤ -turn P Q y) (h.ha c hc)
      have ec := L c
      rw [Int.neg_mul] at m
      have : 0 ≤ turn s e y * (-turn P Q c) := by rw [Int.mul_neg, Int.mul_comm]; omega
      have := nonneg_of_mul y0 this
      omega
    refine ⟨⟨⟨s, e, h⟩, fun x => hn x.symm, hQ, hP, fun c hc => by have := low c hc; rw [turn_swap]; omega, fun c hc => ?_, ⟨y, hy, by rw [turn_swap]; omega⟩, ⟨z, hz, ?_⟩⟩, fun ⟨c, hc, x⟩ => by have := low c hc; omega⟩
    · have m := Int.mul_nonneg (by omega : 0 ≤ -turn P Q y) (by have := h.hb c hc; omega : 0 ≤ -turn s e c)
      have ec := L c
      rw [Int.neg_mul, Int.mul_neg, Int.neg_neg] at m
      have : 0 ≤ turn s e y * turn P Q c := by rw [Int.mul_comm]; omega
      have := nonneg_of_mul y0 this
      rw [turn_swap]; omega
    · have m := Int.mul_pos (by omega : 0 < -turn P Q y) (by omega : 0 < -turn s e z)
      rw [Int.neg_mul, Int.mul_neg, Int.neg_neg] at m
      have : 0 < turn s e y * turn P Q z := by rw [Int.mul_comm]; omega
      have := pos_of_mul y0 this
      rw [turn_swap]; omega
theorem dir_of {a b : List Pt} {s e P Q : Pt} (h : Sepd a b s e) (hn : P ≠ Q) (hP : Comn a b P) (hQ : Comn a b Q) : SeamI a b (dirP P Q a).1 (dirP P Q a).2 := by
  unfold dirP
  rcases seamI_of h hn hP hQ with ⟨x, y⟩ | ⟨x, y⟩
  · rw [if_pos (by rw [List.any_eq_true]; obtain ⟨c, hc, y⟩ := y; exact ⟨c, hc, by simpa using y⟩)]; exact x
  · rw [if_neg (by rw [List.any_eq_true]; rintro ⟨c, hc, z⟩; exact y ⟨c, hc, by simpa using z⟩)]; exact x
theorem seam_some {a b : List Pt} (va : Val a) (vb : Val b) {P Q : Pt} (h : seamP a b = some (P, Q)) : SeamI a b P Q := by
  unfold seamP at h
  split at h
  · rename_i hs
    obtain ⟨s, e, hsep⟩ := sepd_of va vb (fun x => by rw [x] at hs; cases hs)
    rcases hc : comP a b with _ | ⟨f, t⟩
    · rw [hc] at h; simp at h
    · rw [hc] at h
      dsimp only at h
      rcases hf : (f :: t).find? fun c => decide (f ≠ c) with _ | c
      · rw [hf] at h; simp at h
      · rw [hf] at h
        have hm := List.mem_of_find?_eq_some hf
        have hp := List.find?_some hf
        have hne : f ≠ c := by simpa using hp
        have i1 : Comn a b f := com_iff.1 (by rw [hc]; simp)
        have i2 : Comn a b c := com_iff.1 (by rw [hc]; exact hm)
        have := dir_of hsep hne i1 i2
        simp only [Option.some.injEq] at h
        rw [h] at this
        exact this
  · simp at h
theorem seam_ex {a b : List Pt} (hs : (sideP a b).isSome = true) {x y : Pt} (hx : Comn a b x) (hy : Comn a b y) (hn : x ≠ y) : ∃ f c, f ≠ c ∧ Comn a b f ∧ Comn a b c ∧ seamP a b = some (dirP f c a) := by
  unfold seamP
  rw [if_pos hs]
  have mx := com_iff.2 hx
  have my := com_iff.2 hy
  rcases hc : comP a b with _ | ⟨f, t⟩
  · rw [hc] at mx; simp at mx
  · dsimp only
    rcases hf : (f :: t).find? fun c => decide (f ≠ c) with _ | c
    · exfalso
      rw [List.find?_eq_none] at hf
      rw [hc] at mx my
      have a1 := hf x mx
      have a2 := hf y my
      simp at a1 a2
      exact hn (a1.symm.trans a2)
    · have hm := List.mem_of_find?_eq_some hf
      have hp := List.find?_some hf
      exact ⟨f, c, by simpa using hp, com_iff.1 (by rw [hc]; simp), com_iff.1 (by rw [hc]; exact hm), rfl⟩
theorem side_swap {a b : List Pt} (va : Val a) (vb : Val b) : (sideP a b).isSome = (sideP b a).isSome := by
  have wa := (valB_iff _).2 va
  have wb := (valB_iff _).2 vb
  have := over_comm wa wb
  unfold overP at this
  rw [wa, wb] at this
  rcases e1 : sideP a b with _ | x <;> rcases e2 : sideP b a with _ | y <;> rw [e1, e2] at this <;> simp_all
/-- The seam in the other order. -/
theorem seam_back {a b : List Pt} (va : Val a) (vb : Val b) {P Q : Pt} (h : seamP a b = some (P, Q)) : seamP b a = some (Q, P) := by
  have I := seam_some va vb h
  have hs : (sideP b a).isSome = true := by
    rw [← side_swap va vb]
    rcases e : (sideP a b).isSome with _ | _
    · unfold seamP at h; rw [e] at h; simp at h
    · rfl
  obtain ⟨f, c, hn, hf, hc, e⟩ := seam_ex hs (comn_swap I.cP) (comn_swap I.cQ) I.ne
  obtain ⟨s, t, hsep⟩ := I.sep
  have tf := comn_two hsep I.ne I.cP I.cQ (comn_swap hf)
  have tc := comn_two hsep I.ne I.cP I.cQ (comn_swap hc)
  rw [e]
  unfold dirP
  rcases tf with rfl | rfl
  · rcases tc with rfl | rfl
    · exact absurd rfl hn
    · rw [if_neg]
      rw [List.any_eq_true]; rintro ⟨x, hx, z⟩
      have := I.right x hx
      simp at z; omega
  · rcases tc with rfl | rfl
    · rw [if_pos]
      rw [List.any_eq_true]; obtain ⟨x, hx, z⟩ := I.some2
      exact ⟨x, hx, by rw [turn_swap]; simp; omega⟩
    · exact absurd rfl hn
theorem seam_none {a b : List Pt} (va : Val a) (vb : Val b) (h : seamP a b = none) : seamP b a = none := by
  rcases e : seamP b a with _ | ⟨P, Q⟩
  · rfl
  · rw [seam_back vb va e] at h; cases h
theorem seam_eq {a b : List Pt} (va : Val a) (vb : Val b) : seamP b a = (seamP a b).map fun s => (s.2, s.1) := by
  rcases e : seamP a b with _ | ⟨P, Q⟩
  · exact seam_none va vb e
  · exact seam_back va vb e
/-- Separated polygons have no place of an interior in common. -/
theorem both_zero {a b : List Pt} {s e : Pt} (h : Sepd a b s e) {p : Pt} (hp : Both a b p) : posP a p = 0 ∧ posP b p = 0 := by
  have K : ∀ {a b : List Pt} {s e : Pt}, Sepd a b s e → Both a b p → posP a p = 0 := fun {a b s e} h hp => by
    rcases pos_cases a p with x | x | x
    · exfalso
      obtain ⟨i, j, hi, hj, hne⟩ := two_vals h.va h.ne
      obtain ⟨k, hk, hlt⟩ := support_strict h.va (aff_neg (aff_turn s e)) (pos_one.1 x) hi hj (by omega)
      have := h.ha _ (vx_mem hk)
      have := in_ge h.vb (sepd_swap h).ha hp.2
      rw [turn_swap] at this
      omega
    · exact x
    · have := hp.1; omega
  exact ⟨K h hp, K (sepd_swap h) ⟨hp.2, hp.1⟩⟩
theorem seam_on {a b : List Pt} {P Q : Pt} (I : SeamI a b P Q) (p : Pt) : (posP a p = 0 ∧ posP b p = 0) ↔ segB P Q p = true := by
  obtain ⟨s, e, h⟩ := I.sep
  rw [seg_iff I.ne, ← both_seg h I.ne I.cP I.cQ p]
  exact ⟨fun x => ⟨by omega, by omega⟩, fun x => both_zero h x⟩
/-- On the line, the furthest corner. -/
theorem far_corner {l : List Pt} (v : Val l) {s e : Pt} (hs : ∀ c ∈ l, 0 ≤ turn s e c) {p : Pt} (hp : 0 ≤ posP l p) (h0 : turn s e p = 0) {t : Pt → Int} (ht : Aff t) {N : Int} (hN : ∀ c ∈ l, t c - t p < N) : ∃ c ∈ l, turn s e c = 0 ∧ t p ≤ t c := by
  have hg : Aff fun q => t q + -(N * turn s e q) := by
    obtain ⟨A, B, C, x⟩ := ht
    obtain ⟨D, E, F, y⟩ := aff_turn s e
    exact ⟨A - N * D, B - N * E, C - N * F, fun q => by rw [x, y]; grind⟩
  obtain ⟨i, hi, hle⟩ := v.support hg (pos_ge.1 hp)
  have hm := vx_mem hi
  have a1 := hs _ hm
  have a2 := hN _ hm
  rw [h0, Int.mul_zero] at hle
  by_cases x : turn s e (vx l i) = 0
  · rw [x, Int.mul_zero] at hle
    exact ⟨_, hm, x, by omega⟩
  · exfalso
    rcases Int.lt_or_le N 0 with n | n
    · have k := a2
      obtain ⟨j, hj, hle2⟩ := v.support ht (pos_ge.1 hp)
      have := hN _ (vx_mem hj)
      omega
    · have m := Int.mul_le_mul_of_nonneg_left (by omega : 1 ≤ turn s e (vx l i)) n
      rw [Int.mul_one] at m
      omega
theorem al_in {P Q p : Pt} (hP : On P) (hQ : On Q) (hp : On p) : -3200 ≤ al P Q p ∧ al P Q p ≤ 3200 := by
  have a := mul_bd (x := p.1 - P.1) (y := Q.1 - P.1) (by have := hp.x0; have := hP.x1; omega) (by have := hp.x1; have := hP.x0; omega) (by have := hQ.x0; have := hP.x1; omega) (by have := hQ.x1; have := hP.x0; omega)
  have b := mul_bd (x := p.2 - P.2) (y := Q.2 - P.2) (by have := hp.y0; have := hP.y1; omega) (by have := hp.y1; have := hP.y0; omega) (by have := hQ.y0; have := hP.y1; omega) (by have := hQ.y1; have := hP.y0; omega)
  have a' := mul_bd (x := -(p.1 - P.1)) (y := Q.1 - P.1) (by have := hp.x1; have := hP.x0; omega) (by have := hp.x0; have := hP.x1; omega) (by have := hQ.x0; have := hP.x1; omega) (by have := hQ.x1; have := hP.x0; omega)
  have b' := mul_bd (x := -(p.2 - P.2)) (y := Q.2 - P.2) (by have := hp.y1; have := hP.y0; omega) (by have := hp.y0; have := hP.y1; omega) (by have := hQ.y0; have := hP.y1; omega) (by have := hQ.y1; have := hP.y0; omega)
  rw [Int.neg_mul] at a' b'
  unfold al
  omega
/-- Further on than p, a common corner. -/
theorem far_common {a b : List Pt} {s e p q : Pt} (h : Sepd a b s e) (op : On p) (oq : On q) (hn : q ≠ p) (hp : Both a b p) (hq : Both a b q) : ∃ c, Comn a b c ∧ al q p p ≤ al q p c := by
  have zp := h.zero hp
  have zq := h.zero hq
  have hD := al_pos hn
  have hs := sepd_swap h
  have bd : ∀ c, On c → al q p c - al q p p < 6401 := fun c hc => by
    have := al_in oq op hc; have := al_in oq op op; omega
  have oa : ∀ c ∈ a, On c := fun c hc => by obtain ⟨i, hi, rfl⟩ := mem_vx hc; exact h.va.on i hi
  have ob : ∀ c ∈ b, On c := fun c hc => by obtain ⟨i, hi, rfl⟩ := mem_vx hc; exact h.vb.on i hi
  obtain ⟨A, mA, zA, tA⟩ := far_corner h.va h.ha hp.1 zp (aff_al q p) (fun c hc => bd c (oa c hc))
  obtain ⟨B, mB, zB, tB⟩ := far_corner h.vb hs.ha hp.2 (by rw [turn_swap]; omega) (aff_al q p) (fun c hc => bd c (ob c hc))
  rw [turn_swap] at zB
  have zB : turn s e B = 0 := by omega
  have iA : 0 ≤ posP a A := by obtain ⟨i, hi, rfl⟩ := mem_vx mA; exact at_corner h.va hi
  have iB : 0 ≤ posP b B := by obtain ⟨i, hi, rfl⟩ := mem_vx mB; exact at_corner h.vb hi
  -- a place between p and X lies in what both lie in
  have betw : ∀ (l : List Pt) (X Y : Pt), 0 ≤ posP l p → 0 ≤ posP l X → turn s e X = 0 → turn s e Y = 0 → al q p p ≤ al q p Y → al q p Y ≤ al q p X → 0 ≤ posP l Y := fun l X Y lp lX zX zY h1 h2 => by
    rw [pos_ge]
    intro i hi
    have e1 := on_line (f := al q p) (aff_al q p) (aff_turn (vx l i) (nx l i)) (Sepd.col h.ne zp zX zY)
    have a1 := pos_ge.1 lp i hi
    have a2 := pos_ge.1 lX i hi
    by_cases x : al q p X = al q p p
    · -- Y is p
      have e2 := on_line (f := al q p) (aff_al q p) (aff_turn (vx l i) (nx l i)) (Sepd.col h.ne zq zp zY)
      rw [al_l, Int.sub_zero, show al q p Y = al q p p by omega, Int.sub_self, Int.mul_zero, Int.zero_add, Int.sub_zero] at e2
      rw [Int.eq_of_mul_eq_mul_right (Int.ne_of_gt hD) e2]; exact a1
    · have m1 := Int.mul_nonneg a1 (by omega : 0 ≤ al q p X - al q p Y)
      have m2 := Int.mul_nonneg a2 (by omega : 0 ≤ al q p Y - al q p p)
      rw [Int.mul_comm] at e1
      exact nonneg_of_mul (by omega : 0 < al q p X - al q p p) (by omega)
  rcases Int.le_total (al q p A) (al q p B) with x | x
  · exact ⟨A, ⟨.inl mA, iA, betw b B A hp.2 iB zB zA tA x⟩, tA⟩
  · exact ⟨B, ⟨.inr mB, betw a A B hp.1 iA zA zB tB x, iB⟩, tB⟩
/-- Without a seam, they have at most one place in common. -/
theorem none_one {a b : List Pt} (va : Val a) (vb : Val b) (hs : (sideP a b).isSome = true) (h : seamP a b = none) {p q : Pt} (op : On p) (oq : On q) (hp : Both a b p) (hq : Both a b q) : p = q := by
  rcases Decidable.em (q = p) with x | hn
  · exact x.symm
  · exfalso
    obtain ⟨s, e, hsep⟩ := sepd_of va vb (fun x => by rw [x] at hs; cases hs)
    obtain ⟨c, hc, h1⟩ := far_common hsep op oq hn hp hq
    obtain ⟨d, hd, h2⟩ := far_common hsep oq op (fun x => hn x.symm) hq hp
    have hD := al_pos hn
    have : c ≠ d := fun e => by
      subst e
      have e1 : al p q c = al q p p - al q p c := by unfold al; grind
      have e2 : al p q q = al q p p := by unfold al; grind
      omega
    obtain ⟨f, g, _, _, _, e⟩ := seam_ex hs hc hd this
    rw [e] at h; cases h
end Pln
/- UntTouP: Plain mathematics of UnitTouches. -/
namespace Unt
open Pln
theorem com_swap (u t : U) : comU t u = comU u t := by
  unfold comU bckP frtP
  rw [Int.max_comm, Int.min_comm]
  cases valU u <;> cases valU t <;> rfl
theorem bck_swap (u t : U) : bckP t u = bckP u t := Int.max_comm _ _
theorem frt_swap (u t : U) : frtP t u = frtP u t := Int.min_comm _ _
theorem tou_swap {u t : U} (v : ValU u) (x : ValU t) : touU t u = (touU u t).map fun s => (s.2, s.1) := by
  unfold touU
  rw [com_swap u t]
  split
  · exact seam_eq v.v x.v
  · rfl
theorem over_swap {u t : U} (v : ValU u) (x : ValU t) : overU t u = overU u t := by
  unfold overU
  rw [com_swap u t, over_comm ((valB_iff _).2 x.v) ((valB_iff _).2 v.v)]
structure TouF (u t : U) (P Q : Pt) : Prop where
  oP : On P
  oQ : On Q
  ne : P ≠ Q
  over : overU u t = false
  pa : insP u.shape P = 0
  pb : insP t.shape P = 0
  qa : insP u.shape Q = 0
  qb : insP t.shape Q = 0
  com : bckP u t < frtP u t
theorem segB_l (P Q : Pt) : segB P Q P = true := by
  unfold segB
  simp only [Bool.and_eq_true, decide_eq_true_eq]
  exact ⟨⟨⟨⟨turn_l P Q, by omega⟩, by omega⟩, by omega⟩, by omega⟩
theorem segB_r (P Q : Pt) : segB P Q Q = true := by
  unfold segB
  simp only [Bool.and_eq_true, decide_eq_true_eq]
  exact ⟨⟨⟨⟨turn_r P Q, by omega⟩, by omega⟩, by omega⟩, by omega⟩
theorem tou_f {u t : U} (v : ValU u) (x : ValU t) {P Q : Pt} (h : touU u t = some (P, Q)) : TouF u t P Q := by
  unfold touU at h
  split at h
  · rename_i hc
    have I := seam_some v.v x.v h
    have K : ∀ {c : Pt}, Comn u.shape t.shape c → On c := fun {c} hc => by
      rcases hc.1 with h | h
      · obtain ⟨i, hi, rfl⟩ := mem_vx h; exact v.v.on i hi
      · obtain ⟨i, hi, rfl⟩ := mem_vx h; exact x.v.on i hi
    have hP := (seam_on I P).2 (segB_l P Q)
    have hQ := (seam_on I Q).2 (segB_r P Q)
    refine ⟨K I.cP, K I.cQ, I.ne, ?_, ?_, ?_, ?_, ?_, ?_⟩
    · unfold overU overP
      rcases e : sideP u.shape t.shape with _ | y
      · unfold seamP at h; rw [e] at h; simp at h
      · simp
    · rw [insP_eq v.v (K I.cP)]; exact hP.1
    · rw [insP_eq x.v (K I.cP)]; exact hP.2
    · rw [insP_eq v.v (K I.cQ)]; exact hQ.1
    · rw [insP_eq x.v (K I.cQ)]; exact hQ.2
    · unfold comU at hc
      simp only [Bool.and_eq_true, decide_eq_true_eq] at hc
      exact hc.2
  · cases h
end Unt
/- UntRegD: A drawn region's operations that are not wanted. Of no program. -/
namespace Pln
open Go
section
variable {F : Fence} {n : Nat} {P : Program} {ops : Array Oper} {Q : Exit → Act → World → Prop} {md : Region.Mode} {S : World → Prop}
/-- An operation that only reads and is not wanted is taken first. -/
theorem wpT_skip (i : Nat) (d : Tmp) {k : Nat} {oi : Oper} {fuel : Nat} {listed : Array Bool} {a : Act} {w : World} (hS : S w)
    (hi : ops[i]? = some oi) (hd : oi.dst = some d) (hw : Region.wanted oi (yielded ops a.tmps) = false) (hnd : noDefer ops = true := by kernel_rfl) (hT : okT md ops listed i k = true := by kernel_rfl)
    (hs : Region.noSelect ops = true := by kernel_rfl) (hf : Region.free md ops listed i = true := by kernel_rfl) (hr : (Region.ready md ops listed).contains i = true := by kernel_rfl)
    (hQ : ∀ c a w, Q (.panic c) (a.put (some d) undef) w → Q (.panic c) a w := by exact fun _ _ _ h => h) (hab : ∀ w, oi.about P w a.eval = none := by exact fun _ => rfl)
    (h : wpT F n P md ops Q S k fuel (listed.setIfInBounds i true) (a.put (some d) undef) w) : wpT F n P md ops Q S k (fuel + 1) listed a w :=
  wpT_take i hS hi hd hnd hT hs hf hr hQ ⟨.inr ⟨hw, rfl⟩, hab⟩ h
/-- The one operation that may come up is not wanted. -/
theorem wpT_oneSkip (i : Nat) {k : Nat} {oi : Oper} {fuel : Nat} {listed : Array Bool} {a : Act} {w : World} (hi : ops[i]? = some oi) (hg : Region.wanted oi (yielded ops a.tmps) = false) (hr : Region.ready md ops listed = [i])
    (hab : ∀ f, oi.about P w a.eval = some f → F.fn f) (hS : (listed.setIfInBounds i true).getD k true = false → S w)
    (h : wpT F n P md ops Q S k fuel (listed.setIfInBounds i true) (a.put oi.dst undef) w) : wpT F n P md ops Q S k (fuel + 1) listed a w := by
  refine ⟨fun h0 => (by rw [hr] at h0; cases h0), fun j hj => ?_⟩
  rw [hr] at hj
  obtain rfl : j = i := by simpa using hj
  unfold wpOpIn
  simp only [hi, hg, Bool.false_eq_true, if_false]
  exact ⟨hab, hS, h⟩
end
end Pln
