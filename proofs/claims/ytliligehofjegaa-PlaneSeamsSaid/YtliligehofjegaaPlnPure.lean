/- Plain mathematics of layer 7: turns, polygons as lists of pairs, sums over edges. Nothing of the program. -/
namespace Pln

abbrev Pt := Int × Int
def turn (a b c : Pt) : Int := (b.1 - a.1) * (c.2 - a.2) - (b.2 - a.2) * (c.1 - a.1)
def crs (a b : Pt) : Int := a.1 * b.2 - a.2 * b.1
def onB (p : Pt) : Bool := decide (0 ≤ p.1) && decide (p.1 ≤ 40) && decide (0 ≤ p.2) && decide (p.2 ≤ 40)
structure On (p : Pt) : Prop where
  x0 : 0 ≤ p.1
  x1 : p.1 ≤ 40
  y0 : 0 ≤ p.2
  y1 : p.2 ≤ 40
theorem onB_iff (p : Pt) : onB p = true ↔ On p := by
  unfold onB; simp only [Bool.and_eq_true, decide_eq_true_eq]
  exact ⟨fun h => ⟨h.1.1.1, h.1.1.2, h.1.2, h.2⟩, fun h => ⟨⟨⟨h.x0, h.x1⟩, h.y0⟩, h.y1⟩⟩
def vx (l : List Pt) (i : Nat) : Pt := l.getD i (0, 0)
/-- The end of the edge i. -/
def nx (l : List Pt) (i : Nat) : Pt := vx l ((i + 1) % l.length)
theorem vx_mem {l : List Pt} {i : Nat} (h : i < l.length) : vx l i ∈ l := by
  unfold vx; rw [List.getD_eq_getElem?_getD, List.getElem?_eq_getElem h]; exact List.getElem_mem h
theorem vx_eq {l : List Pt} {i : Nat} (h : i < l.length) : vx l i = l[i] := by
  unfold vx; rw [List.getD_eq_getElem?_getD, List.getElem?_eq_getElem h]; rfl
theorem mem_vx {l : List Pt} {p : Pt} (h : p ∈ l) : ∃ i, i < l.length ∧ vx l i = p := by
  obtain ⟨i, hi, rfl⟩ := List.getElem_of_mem h; exact ⟨i, hi, vx_eq hi⟩
theorem ext_vx {a b : List Pt} (hl : a.length = b.length) (h : ∀ i, i < a.length → vx a i = vx b i) : a = b := by
  refine List.ext_getElem hl fun i h1 h2 => ?_
  have := h i h1; rw [vx_eq h1, vx_eq h2] at this; exact this
theorem mod_lt' {l : List Pt} {i : Nat} (h : i < l.length) : (i + 1) % l.length < l.length := Nat.mod_lt _ (by omega)
theorem nx_mem {l : List Pt} {i : Nat} (h : i < l.length) : nx l i ∈ l := vx_mem (mod_lt' h)
theorem nx_in {l : List Pt} {i : Nat} (h : i + 1 < l.length) : nx l i = vx l (i + 1) := by
  unfold nx; rw [Nat.mod_eq_of_lt h]
theorem nx_last {l : List Pt} {i : Nat} (h : i + 1 = l.length) : nx l i = vx l 0 := by
  unfold nx; rw [h, Nat.mod_self]

/-- Sums of the first n numbers. -/
def sm (f : Nat → Int) : Nat → Int
  | 0 => 0
  | n + 1 => sm f n + f n
theorem sm_congr {f g : Nat → Int} : ∀ {n : Nat}, (∀ i, i < n → f i = g i) → sm f n = sm g n
  | 0, _ => rfl
  | n + 1, h => by rw [sm, sm, sm_congr (fun i hi => h i (by omega)), h n (by omega)]
theorem sm_add (f g : Nat → Int) : ∀ n, sm (fun i => f i + g i) n = sm f n + sm g n
  | 0 => rfl
  | n + 1 => by rw [sm, sm, sm, sm_add f g n]; omega
theorem sm_mul (a : Int) (f : Nat → Int) : ∀ n, sm (fun i => a * f i) n = a * sm f n
  | 0 => by simp [sm]
  | n + 1 => by rw [sm, sm, sm_mul a f n, Int.mul_add]
theorem sm_zero {f : Nat → Int} : ∀ {n : Nat}, (∀ i, i < n → f i = 0) → sm f n = 0
  | 0, _ => rfl
  | n + 1, h => by rw [sm, sm_zero (fun i hi => h i (by omega)), h n (by omega)]; rfl
theorem sm_le {f g : Nat → Int} : ∀ {n : Nat}, (∀ i, i < n → f i ≤ g i) → sm f n ≤ sm g n
  | 0, _ => Int.le_refl _
  | n + 1, h => by have := sm_le (f := f) (g := g) (n := n) (fun i hi => h i (by omega)); have := h n (by omega); rw [sm, sm]; omega
theorem sm_const (c : Int) : ∀ n : Nat, sm (fun _ => c) n = n * c
  | 0 => by simp [sm]
  | n + 1 => by rw [sm, sm_const c n]; push_cast; rw [Int.add_mul]; omega
theorem sm_split (f : Nat → Int) (m : Nat) : ∀ n, sm f (m + n) = sm f m + sm (fun i => f (m + i)) n
  | 0 => by simp [sm]
  | n + 1 => by rw [← Nat.add_assoc, sm, sm, sm_split f m n]; omega
theorem sm_tele (f : Nat → Int) : ∀ n, sm (fun i => f (i + 1) - f i) n = f n - f 0
  | 0 => by simp [sm]
  | n + 1 => by rw [sm, sm_tele f n]; omega
theorem sm_head (f : Nat → Int) (n : Nat) : sm f (n + 1) = f 0 + sm (fun i => f (i + 1)) n := by
  rw [Nat.add_comm, sm_split]; simp only [sm, Int.zero_add]
  congr 1; exact sm_congr fun i _ => by rw [Nat.add_comm]
theorem sm_comm (f : Nat → Nat → Int) (m : Nat) : ∀ n, sm (fun i => sm (f i) m) n = sm (fun j => sm (fun i => f i j) n) m
  | 0 => by rw [sm, sm_zero]; intros; rfl
  | n + 1 => by
    rw [sm, sm_comm f m n, ← sm_add]; exact sm_congr fun j _ => rfl
theorem sm_one {f : Nat → Int} {k : Nat} : ∀ {n : Nat}, k < n → (∀ i, i < n → i ≠ k → f i = 0) → sm f n = f k
  | n + 1, hk, h => by
    rw [sm]
    by_cases e : k = n
    · subst e; rw [sm_zero (fun i hi => h i (by omega) (by omega))]; omega
    · rw [sm_one (by omega : k < n) (fun i hi => h i (by omega)), h n (by omega) (fun x => e x.symm)]; omega

/-- What the edges of l contribute. -/
def sumE (l : List Pt) (f : Pt → Pt → Int) (k : Nat) : Int := sm (fun i => f (vx l i) (nx l i)) k
theorem sumE_succ (l : List Pt) (f : Pt → Pt → Int) (k : Nat) : sumE l f (k + 1) = sumE l f k + f (vx l k) (nx l k) := rfl
/-- A difference that goes around is 0. -/
theorem sumE_tele (l : List Pt) (g : Pt → Int) : sumE l (fun a b => g b - g a) l.length = 0 := by
  rcases h : l.length with _ | n
  · rfl
  · have e : sumE l (fun a b => g b - g a) (n + 1) = sumE l (fun a b => g b - g a) n + (g (nx l n) - g (vx l n)) := rfl
    have e2 : sumE l (fun a b => g b - g a) n = sm (fun i => g (vx l (i + 1)) - g (vx l i)) n :=
      sm_congr fun i hi => by
        show g (nx l i) - _ = _
        rw [nx_in (by omega)]
    rw [e, e2, sm_tele (fun i => g (vx l i)), nx_last (by omega)]; omega

/-- The polygon is valid. -/
structure Val (l : List Pt) : Prop where
  lo : 3 ≤ l.length
  hi : l.length ≤ 8
  on : ∀ i, i < l.length → On (vx l i)
  left : ∀ i, i < l.length → ∀ k, k < l.length → k ≠ i → k ≠ (i + 1) % l.length → 0 < turn (vx l i) (nx l i) (vx l k)
def rowB (l : List Pt) (i k : Nat) : Bool := (List.range k).all fun j => j == i || j == (i + 1) % l.length || decide (0 < turn (vx l i) (nx l i) (vx l j))
def rowsB (l : List Pt) (k : Nat) : Bool := (List.range k).all fun i => rowB l i l.length
def onsB (l : List Pt) (k : Nat) : Bool := (List.range k).all fun i => onB (vx l i)
def valB (l : List Pt) : Bool := decide (3 ≤ l.length) && decide (l.length ≤ 8) && onsB l l.length && rowsB l l.length
theorem rowB_iff (l : List Pt) (i k : Nat) : rowB l i k = true ↔ ∀ j, j < k → j ≠ i → j ≠ (i + 1) % l.length → 0 < turn (vx l i) (nx l i) (vx l j) := by
  unfold rowB
  simp only [List.all_eq_true, List.mem_range, Bool.or_eq_true, beq_iff_eq, decide_eq_true_eq]
  constructor
  · intro h j hj a b
    rcases h j hj with (h | h) | h
    · exact absurd h a
    · exact absurd h b
    · exact h
  · intro h j hj
    by_cases a : j = i
    · exact .inl (.inl a)
    · by_cases b : j = (i + 1) % l.length
      · exact .inl (.inr b)
      · exact .inr (h j hj a b)
theorem rowsB_iff (l : List Pt) (k : Nat) : rowsB l k = true ↔ ∀ i, i < k → rowB l i l.length = true := by
  unfold rowsB; simp only [List.all_eq_true, List.mem_range]
theorem onsB_iff (l : List Pt) (k : Nat) : onsB l k = true ↔ ∀ i, i < k → On (vx l i) := by
  unfold onsB; simp only [List.all_eq_true, List.mem_range, onB_iff]
theorem valB_iff (l : List Pt) : valB l = true ↔ Val l := by
  unfold valB
  simp only [Bool.and_eq_true, decide_eq_true_eq, onsB_iff, rowsB_iff, rowB_iff]
  exact ⟨fun h => ⟨h.1.1.1, h.1.1.2, h.1.2, h.2⟩, fun h => ⟨⟨⟨h.lo, h.hi⟩, h.on⟩, h.left⟩⟩
theorem valB_false {l : List Pt} (h : valB l = false) : ¬ Val l := fun v => by rw [(valB_iff l).2 v] at h; exact Bool.noConfusion h

/-- The least of 1 and the turns with the first k edges. -/
def lst (l : List Pt) (p : Pt) : Nat → Int
  | 0 => 1
  | k + 1 => min (lst l p k) (turn (vx l k) (nx l k) p)
def posP (l : List Pt) (p : Pt) : Int := max (lst l p l.length) (-1)
theorem lst_le (l : List Pt) (p : Pt) : ∀ k, lst l p k ≤ 1
  | 0 => Int.le_refl _
  | k + 1 => by rw [lst]; have := lst_le l p k; omega
theorem lst_ge {l : List Pt} {p : Pt} {c : Int} (hc : c ≤ 1) : ∀ {k : Nat}, c ≤ lst l p k ↔ ∀ i, i < k → c ≤ turn (vx l i) (nx l i) p
  | 0 => by simp [lst, hc]
  | k + 1 => by
    rw [lst]
    constructor
    · intro h i hi
      by_cases e : i = k
      · subst e; omega
      · exact (lst_ge hc (k := k)).1 (by omega) i (by omega)
    · intro h
      have h1 := (lst_ge (l := l) (p := p) hc (k := k)).2 fun i hi => h i (by omega)
      have h2 := h k (by omega)
      omega
theorem pos_ge {l : List Pt} {p : Pt} : 0 ≤ posP l p ↔ ∀ i, i < l.length → 0 ≤ turn (vx l i) (nx l i) p := by
  rw [← lst_ge (by omega)]; unfold posP; omega
theorem pos_one {l : List Pt} {p : Pt} : posP l p = 1 ↔ ∀ i, i < l.length → 0 < turn (vx l i) (nx l i) p := by
  have e : (∀ i, i < l.length → 0 < turn (vx l i) (nx l i) p) ↔ ∀ i, i < l.length → 1 ≤ turn (vx l i) (nx l i) p := Iff.rfl
  rw [e, ← lst_ge (by omega)]
  have := lst_le l p l.length
  unfold posP; omega
theorem pos_cases (l : List Pt) (p : Pt) : posP l p = 1 ∨ posP l p = 0 ∨ posP l p = -1 := by
  have := lst_le l p l.length
  unfold posP; omega
/-- Where a place is, as the program says it. -/
def insP (l : List Pt) (p : Pt) : Int := if valB l = true ∧ onB p = true then posP l p else -1
def dbl (l : List Pt) : List Pt := l.map fun p => (2 * p.1, 2 * p.2)
def cellP (l : List Pt) (x y : Int) : Int := if valB l = true ∧ onB (x, y) = true then posP (dbl l) (2 * x + 1, 2 * y + 1) else -1
def areaP (l : List Pt) : Int := if valB l = true then sumE l crs l.length else 0
def mxP (l : List Pt) : Int := if valB l = true then sumE l (fun a b => (a.1 + b.1) * crs a b) l.length else 0
def myP (l : List Pt) : Int := if valB l = true then sumE l (fun a b => (a.2 + b.2) * crs a b) l.length else 0
/-- The places with whole coordinates on an edge, without one of its ends. -/
def stp (a b : Pt) : Int := (Int.gcd (b.1 - a.1) (b.2 - a.2) : Int)
def bndP (l : List Pt) : Int := if valB l = true then sumE l stp l.length else 0
def innP (l : List Pt) : Int := if valB l = true then (sumE l crs l.length - sumE l stp l.length + 2).tdiv 2 else 0

/-- The edge i of l separates. -/
def sepB (l o : List Pt) (i : Nat) : Bool := o.all fun c => decide (turn (vx l i) (nx l i) c ≤ 0)
/-- The first one from k on, of n. -/
def sepF (l o : List Pt) : Nat → Nat → Option Nat
  | 0, _ => none
  | n + 1, k => if sepB l o k = true then some k else sepF l o n (k + 1)
def sep (l o : List Pt) : Option Nat := sepF l o l.length 0
theorem sepF_some {l o : List Pt} : ∀ {n k i : Nat}, sepF l o n k = some i → k ≤ i ∧ i < k + n ∧ sepB l o i = true ∧ ∀ j, k ≤ j → j < i → sepB l o j = false
  | 0, _, _, h => by simp [sepF] at h
  | n + 1, k, i, h => by
    rw [sepF] at h
    by_cases e : sepB l o k = true
    · rw [if_pos e] at h; cases h; exact ⟨by omega, by omega, e, fun j a b => by omega⟩
    · rw [if_neg e] at h
      obtain ⟨a, b, c, d⟩ := sepF_some h
      refine ⟨by omega, by omega, c, fun j h1 h2 => ?_⟩
      by_cases e2 : j = k
      · subst e2; simpa using e
      · exact d j (by omega) h2
theorem sepF_none {l o : List Pt} : ∀ {n k : Nat}, sepF l o n k = none → ∀ j, k ≤ j → j < k + n → sepB l o j = false
  | 0, _, _ => fun j a b => by omega
  | n + 1, k, h => by
    rw [sepF] at h
    by_cases e : sepB l o k = true
    · rw [if_pos e] at h; cases h
    · rw [if_neg e] at h
      intro j a b
      by_cases e2 : j = k
      · subst e2; simpa using e
      · exact sepF_none h j (by omega) (by omega)
theorem sepB_iff {l o : List Pt} {i : Nat} : sepB l o i = true ↔ ∀ c ∈ o, turn (vx l i) (nx l i) c ≤ 0 := by
  unfold sepB; simp only [List.all_eq_true, decide_eq_true_eq]
theorem sepB_no {l o : List Pt} {i : Nat} : sepB l o i = false ↔ ∃ c ∈ o, 0 < turn (vx l i) (nx l i) c := by
  unfold sepB; simp only [List.all_eq_false, decide_eq_true_eq]
  exact ⟨fun ⟨c, h, k⟩ => ⟨c, h, by omega⟩, fun ⟨c, h, k⟩ => ⟨c, h, by omega⟩⟩
/-- What Side returns. -/
def sideP (a b : List Pt) : Option (Nat × Nat) :=
  if valB a = true ∧ valB b = true then
    match sep a b with
    | some i => some (0, i)
    | none => match sep b a with
      | some i => some (1, i)
      | none => none
  else none
def overP (a b : List Pt) : Bool := valB a && valB b && (sideP a b).isNone
/-- The corners that two polygons have in common. -/
def comP (a b : List Pt) : List Pt := (a ++ b).filter fun c => decide (0 ≤ posP a c) && decide (0 ≤ posP b c)
def dirP (s e : Pt) (l : List Pt) : Pt × Pt := if l.any fun c => decide (0 < turn s e c) then (s, e) else (e, s)
def seamP (a b : List Pt) : Option (Pt × Pt) :=
  if (sideP a b).isSome = true then
    match comP a b with
    | [] => none
    | f :: r => match (f :: r).find? fun c => decide (f ≠ c) with
      | some c => some (dirP f c a)
      | none => none
  else none
/-- The parts of a cut. -/
def runP (l : List Pt) (i k : Nat) : List Pt := if i ≤ k then (l.take (k + 1)).drop i else l.drop i ++ l.take (k + 1)
def cutP (l : List Pt) (i k : Int) : Option (List Pt × List Pt) :=
  if valB l = true ∧ 0 ≤ min i k ∧ max i k < l.length then
    if min (runP l i.toNat k.toNat).length (runP l k.toNat i.toNat).length < 3 then none
    else some (runP l i.toNat k.toNat, runP l k.toNat i.toNat)
  else none
def shf (l : List Pt) (dx dy : Int) : List Pt := l.map fun p => (p.1 + dx, p.2 + dy)
/-- A sum as the machine makes it. -/
def wr (x : Int) : Int := (x + 9223372036854775808) % 18446744073709551616 - 9223372036854775808
def moveP (l : List Pt) (dx dy : Int) : Option (List Pt) :=
  if valB l = true then
    if (shf l dx dy).all onB then some (shf l dx dy) else none
  else none
end Pln
