/- Several texts of layers 7 and 8, one behind the other: PlnPure, PlnGeo, PlnHull, PlnKit, PlnTurn, PlnRange, PlnReg, PlnEdges, PlnPos. -/
import Derived.WalkKit
import Derived.WalkSpells
import Derived.WalkLawsBesides
import Derived.Lib.Hide
import Derived.Laws.Rows
import Derived.IntWalk
import Derived.BigQuiet
import Derived.RegionTactic
import Derived.ChangeAlike
import Derived.Deep.QuietTactic
import Derived.Deep.RegionHeld3
import Derived.RangeFuncNested
import Derived.RangeFuncBound
import Derived.RangeFuncCalls
import Derived.RangeFuncLeaves
import Derived.RangeFuncOne
import Derived.RangeFuncFrom
import Derived.OwnWalkIn
import Derived.TacticsInMore
import Derived.LoopNIn
import Derived.LoopIn
import Derived.Shelf.Abstract
import Derived.Shelf.RegionOpen
import Derived.OrdersIn
import Derived.OrdersHeld
import Derived.RangeFuncBox
import Derived.OneCell
import Derived.Test.YtcamncipkofgkaaDoorRows
/- PlnPure: Plain mathematics of layer 7: turns, polygons as lists of pairs, sums over edges. Nothing of the program. -/
namespace Pln

abbrev Pt := Int × Int
def turn (a b c : Pt) : Int := (b.1 - a.1) * (c.2 - a.2) - (b.2 - a.2) * (c.1 - a.1)
def crs (a b : Pt) : Int := a.1 * b.2 - a.2 * b.1
def onB (p : Pt) : Bool := decide (0 ≤ p.1) && decide (p.1 ≤ 40) && decide (0 ≤ p.2) && decide (p.2 ≤ 40)
structure On (p : Pt) : Prop where
  x0 : 0 ≤ p.1
  x1 : p.1 ≤ 40
  y0 : 0 ≤ p.2
  y1 : p.2 ≤ 40
theorem onB_iff (p : Pt) : onB p = true ↔ On p := by
  unfold onB; simp only [Bool.and_eq_true, decide_eq_true_eq]
  exact ⟨fun h => ⟨h.1.1.1, h.1.1.2, h.1.2, h.2⟩, fun h => ⟨⟨⟨h.x0, h.x1⟩, h.y0⟩, h.y1⟩⟩
def vx (l : List Pt) (i : Nat) : Pt := l.getD i (0, 0)
/-- The end of the edge i. -/
def nx (l : List Pt) (i : Nat) : Pt := vx l ((i + 1) % l.length)
theorem vx_mem {l : List Pt} {i : Nat} (h : i < l.length) : vx l i ∈ l := by
  unfold vx; rw [List.getD_eq_getElem?_getD, List.getElem?_eq_getElem h]; exact List.getElem_mem h
theorem vx_eq {l : List Pt} {i : Nat} (h : i < l.length) : vx l i = l[i] := by
  unfold vx; rw [List.getD_eq_getElem?_getD, List.getElem?_eq_getElem h]; rfl
theorem mem_vx {l : List Pt} {p : Pt} (h : p ∈ l) : ∃ i, i < l.length ∧ vx l i = p := by
  obtain ⟨i, hi, rfl⟩ := List.getElem_of_mem h; exact ⟨i, hi, vx_eq hi⟩
theorem ext_vx {a b : List Pt} (hl : a.length = b.length) (h : ∀ i, i < a.length → vx a i = vx b i) : a = b := by
  refine List.ext_getElem hl fun i h1 h2 => ?_
  have := h i h1; rw [vx_eq h1, vx_eq h2] at this; exact this
theorem mod_lt' {l : List Pt} {i : Nat} (h : i < l.length) : (i + 1) % l.length < l.length := Nat.mod_lt _ (by omega)
theorem nx_mem {l : List Pt} {i : Nat} (h : i < l.length) : nx l i ∈ l := vx_mem (mod_lt' h)
theorem nx_in {l : List Pt} {i : Nat} (h : i + 1 < l.length) : nx l i = vx l (i + 1) := by
  unfold nx; rw [Nat.mod_eq_of_lt h]
theorem nx_last {l : List Pt} {i : Nat} (h : i + 1 = l.length) : nx l i = vx l 0 := by
  unfold nx; rw [h, Nat.mod_self]

/-- Sums of the first n numbers. -/
def sm (f : Nat → Int) : Nat → Int
  | 0 => 0
  | n + 1 => sm f n + f n
theorem sm_congr {f g : Nat → Int} : ∀ {n : Nat}, (∀ i, i < n → f i = g i) → sm f n = sm g n
  | 0, _ => rfl
  | n + 1, h => by rw [sm, sm, sm_congr (fun i hi => h i (by omega)), h n (by omega)]
theorem sm_add (f g : Nat → Int) : ∀ n, sm (fun i => f i + g i) n = sm f n + sm g n
  | 0 => rfl
  | n + 1 => by rw [sm, sm, sm, sm_add f g n]; omega
theorem sm_mul (a : Int) (f : Nat → Int) : ∀ n, sm (fun i => a * f i) n = a * sm f n
  | 0 => by simp [sm]
  | n + 1 => by rw [sm, sm, sm_mul a f n, Int.mul_add]
theorem sm_zero {f : Nat → Int} : ∀ {n : Nat}, (∀ i, i < n → f i = 0) → sm f n = 0
  | 0, _ => rfl
  | n + 1, h => by rw [sm, sm_zero (fun i hi => h i (by omega)), h n (by omega)]; rfl
theorem sm_le {f g : Nat → Int} : ∀ {n : Nat}, (∀ i, i < n → f i ≤ g i) → sm f n ≤ sm g n
  | 0, _ => Int.le_refl _
  | n + 1, h => by have := sm_le (f := f) (g := g) (n := n) (fun i hi => h i (by omega)); have := h n (by omega); rw [sm, sm]; omega
theorem sm_const (c : Int) : ∀ n : Nat, sm (fun _ => c) n = n * c
  | 0 => by simp [sm]
  | n + 1 => by rw [sm, sm_const c n]; push_cast; rw [Int.add_mul]; omega
theorem sm_split (f : Nat → Int) (m : Nat) : ∀ n, sm f (m + n) = sm f m + sm (fun i => f (m + i)) n
  | 0 => by simp [sm]
  | n + 1 => by rw [← Nat.add_assoc, sm, sm, sm_split f m n]; omega
theorem sm_tele (f : Nat → Int) : ∀ n, sm (fun i => f (i + 1) - f i) n = f n - f 0
  | 0 => by simp [sm]
  | n + 1 => by rw [sm, sm_tele f n]; omega
theorem sm_head (f : Nat → Int) (n : Nat) : sm f (n + 1) = f 0 + sm (fun i => f (i + 1)) n := by
  rw [Nat.add_comm, sm_split]; simp only [sm, Int.zero_add]
  congr 1; exact sm_congr fun i _ => by rw [Nat.add_comm]
theorem sm_comm (f : Nat → Nat → Int) (m : Nat) : ∀ n, sm (fun i => sm (f i) m) n = sm (fun j => sm (fun i => f i j) n) m
  | 0 => by rw [sm, sm_zero]; intros; rfl
  | n + 1 => by
    rw [sm, sm_comm f m n, ← sm_add]; exact sm_congr fun j _ => rfl
theorem sm_one {f : Nat → Int} {k : Nat} : ∀ {n : Nat}, k < n → (∀ i, i < n → i ≠ k → f i = 0) → sm f n = f k
  | n + 1, hk, h => by
    rw [sm]
    by_cases e : k = n
    · subst e; rw [sm_zero (fun i hi => h i (by omega) (by omega))]; omega
    · rw [sm_one (by omega : k < n) (fun i hi => h i (by omega)), h n (by omega) (fun x => e x.symm)]; omega

/-- What the edges of l contribute. -/
def sumE (l : List Pt) (f : Pt → Pt → Int) (k : Nat) : Int := sm (fun i => f (vx l i) (nx l i)) k
theorem sumE_succ (l : List Pt) (f : Pt → Pt → Int) (k : Nat) : sumE l f (k + 1) = sumE l f k + f (vx l k) (nx l k) := rfl
/-- A difference that goes around is 0. -/
theorem sumE_tele (l : List Pt) (g : Pt → Int) : sumE l (fun a b => g b - g a) l.length = 0 := by
  rcases h : l.length with _ | n
  · rfl
  · have e : sumE l (fun a b => g b - g a) (n + 1) = sumE l (fun a b => g b - g a) n + (g (nx l n) - g (vx l n)) := rfl
    have e2 : sumE l (fun a b => g b - g a) n = sm (fun i => g (vx l (i + 1)) - g (vx l i)) n :=
      sm_congr fun i hi => by
        show g (nx l i) - _ = _
        rw [nx_in (by omega)]
    rw [e, e2, sm_tele (fun i => g (vx l i)), nx_last (by omega)]; omega

/-- The polygon is valid. -/
structure Val (l : List Pt) : Prop where
  lo : 3 ≤ l.length
  hi : l.length ≤ 8
  on : ∀ i, i < l.length → On (vx l i)
  left : ∀ i, i < l.length → ∀ k, k < l.length → k ≠ i → k ≠ (i + 1) % l.length → 0 < turn (vx l i) (nx l i) (vx l k)
def rowB (l : List Pt) (i k : Nat) : Bool := (List.range k).all fun j => j == i || j == (i + 1) % l.length || decide (0 < turn (vx l i) (nx l i) (vx l j))
def rowsB (l : List Pt) (k : Nat) : Bool := (List.range k).all fun i => rowB l i l.length
def onsB (l : List Pt) (k : Nat) : Bool := (List.range k).all fun i => onB (vx l i)
def valB (l : List Pt) : Bool := decide (3 ≤ l.length) && decide (l.length ≤ 8) && onsB l l.length && rowsB l l.length
theorem rowB_iff (l : List Pt) (i k : Nat) : rowB l i k = true ↔ ∀ j, j < k → j ≠ i → j ≠ (i + 1) % l.length → 0 < turn (vx l i) (nx l i) (vx l j) := by
  unfold rowB
  simp only [List.all_eq_true, List.mem_range, Bool.or_eq_true, beq_iff_eq, decide_eq_true_eq]
  constructor
  · intro h j hj a b
    rcases h j hj with (h | h) | h
    · exact absurd h a
    · exact absurd h b
    · exact h
  · intro h j hj
    by_cases a : j = i
    · exact .inl (.inl a)
    · by_cases b : j = (i + 1) % l.length
      · exact .inl (.inr b)
      · exact .inr (h j hj a b)
theorem rowsB_iff (l : List Pt) (k : Nat) : rowsB l k = true ↔ ∀ i, i < k → rowB l i l.length = true := by
  unfold rowsB; simp only [List.all_eq_true, List.mem_range]
theorem onsB_iff (l : List Pt) (k : Nat) : onsB l k = true ↔ ∀ i, i < k → On (vx l i) := by
  unfold onsB; simp only [List.all_eq_true, List.mem_range, onB_iff]
theorem valB_iff (l : List Pt) : valB l = true ↔ Val l := by
  unfold valB
  simp only [Bool.and_eq_true, decide_eq_true_eq, onsB_iff, rowsB_iff, rowB_iff]
  exact ⟨fun h => ⟨h.1.1.1, h.1.1.2, h.1.2, h.2⟩, fun h => ⟨⟨⟨h.lo, h.hi⟩, h.on⟩, h.left⟩⟩
theorem valB_false {l : List Pt} (h : valB l = false) : ¬ Val l := fun v => by rw [(valB_iff l).2 v] at h; exact Bool.noConfusion h

/-- The least of 1 and the turns with the first k edges. -/
def lst (l : List Pt) (p : Pt) : Nat → Int
  | 0 => 1
  | k + 1 => min (lst l p k) (turn (vx l k) (nx l k) p)
def posP (l : List Pt) (p : Pt) : Int := max (lst l p l.length) (-1)
theorem lst_le (l : List Pt) (p : Pt) : ∀ k, lst l p k ≤ 1
  | 0 => Int.le_refl _
  | k + 1 => by rw [lst]; have := lst_le l p k; omega
theorem lst_ge {l : List Pt} {p : Pt} {c : Int} (hc : c ≤ 1) : ∀ {k : Nat}, c ≤ lst l p k ↔ ∀ i, i < k → c ≤ turn (vx l i) (nx l i) p
  | 0 => by simp [lst, hc]
  | k + 1 => by
    rw [lst]
    constructor
    · intro h i hi
      by_cases e : i = k
      · subst e; omega
      · exact (lst_ge hc (k := k)).1 (by omega) i (by omega)
    · intro h
      have h1 := (lst_ge (l := l) (p := p) hc (k := k)).2 fun i hi => h i (by omega)
      have h2 := h k (by omega)
      omega
theorem pos_ge {l : List Pt} {p : Pt} : 0 ≤ posP l p ↔ ∀ i, i < l.length → 0 ≤ turn (vx l i) (nx l i) p := by
  rw [← lst_ge (by omega)]; unfold posP; omega
theorem pos_one {l : List Pt} {p : Pt} : posP l p = 1 ↔ ∀ i, i < l.length → 0 < turn (vx l i) (nx l i) p := by
  have e : (∀ i, i < l.length → 0 < turn (vx l i) (nx l i) p) ↔ ∀ i, i < l.length → 1 ≤ turn (vx l i) (nx l i) p := Iff.rfl
  rw [e, ← lst_ge (by omega)]
  have := lst_le l p l.length
  unfold posP; omega
theorem pos_cases (l : List Pt) (p : Pt) : posP l p = 1 ∨ posP l p = 0 ∨ posP l p = -1 := by
  have := lst_le l p l.length
  unfold posP; omega
/-- Where a place is, as the program says it. -/
def insP (l : List Pt) (p : Pt) : Int := if valB l = true ∧ onB p = true then posP l p else -1
def dbl (l : List Pt) : List Pt := l.map fun p => (2 * p.1, 2 * p.2)
def cellP (l : List Pt) (x y : Int) : Int := if valB l = true ∧ onB (x, y) = true then posP (dbl l) (2 * x + 1, 2 * y + 1) else -1
def areaP (l : List Pt) : Int := if valB l = true then sumE l crs l.length else 0
def mxP (l : List Pt) : Int := if valB l = true then sumE l (fun a b => (a.1 + b.1) * crs a b) l.length else 0
def myP (l : List Pt) : Int := if valB l = true then sumE l (fun a b => (a.2 + b.2) * crs a b) l.length else 0
/-- The places with whole coordinates on an edge, without one of its ends. -/
def stp (a b : Pt) : Int := (Int.gcd (b.1 - a.1) (b.2 - a.2) : Int)
def bndP (l : List Pt) : Int := if valB l = true then sumE l stp l.length else 0
def innP (l : List Pt) : Int := if valB l = true then (sumE l crs l.length - sumE l stp l.length + 2).tdiv 2 else 0

/-- The edge i of l separates. -/
def sepB (l o : List Pt) (i : Nat) : Bool := o.all fun c => decide (turn (vx l i) (nx l i) c ≤ 0)
/-- The first one from k on, of n. -/
def sepF (l o : List Pt) : Nat → Nat → Option Nat
  | 0, _ => none
  | n + 1, k => if sepB l o k = true then some k else sepF l o n (k + 1)
def sep (l o : List Pt) : Option Nat := sepF l o l.length 0
theorem sepF_some {l o : List Pt} : ∀ {n k i : Nat}, sepF l o n k = some i → k ≤ i ∧ i < k + n ∧ sepB l o i = true ∧ ∀ j, k ≤ j → j < i → sepB l o j = false
  | 0, _, _, h => by simp [sepF] at h
  | n + 1, k, i, h => by
    rw [sepF] at h
    by_cases e : sepB l o k = true
    · rw [if_pos e] at h; cases h; exact ⟨by omega, by omega, e, fun j a b => by omega⟩
    · rw [if_neg e] at h
      obtain ⟨a, b, c, d⟩ := sepF_some h
      refine ⟨by omega, by omega, c, fun j h1 h2 => ?_⟩
      by_cases e2 : j = k
      · subst e2; simpa using e
      · exact d j (by omega) h2
theorem sepF_none {l o : List Pt} : ∀ {n k : Nat}, sepF l o n k = none → ∀ j, k ≤ j → j < k + n → sepB l o j = false
  | 0, _, _ => fun j a b => by omega
  | n + 1, k, h => by
    rw [sepF] at h
    by_cases e : sepB l o k = true
    · rw [if_pos e] at h; cases h
    · rw [if_neg e] at h
      intro j a b
      by_cases e2 : j = k
      · subst e2; simpa using e
      · exact sepF_none h j (by omega) (by omega)
theorem sepB_iff {l o : List Pt} {i : Nat} : sepB l o i = true ↔ ∀ c ∈ o, turn (vx l i) (nx l i) c ≤ 0 := by
  unfold sepB; simp only [List.all_eq_true, decide_eq_true_eq]
theorem sepB_no {l o : List Pt} {i : Nat} : sepB l o i = false ↔ ∃ c ∈ o, 0 < turn (vx l i) (nx l i) c := by
  unfold sepB; simp only [List.all_eq_false, decide_eq_true_eq]
  exact ⟨fun ⟨c, h, k⟩ => ⟨c, h, by omega⟩, fun ⟨c, h, k⟩ => ⟨c, h, by omega⟩⟩
/-- What Side returns. -/
def sideP (a b : List Pt) : Option (Nat × Nat) :=
  if valB a = true ∧ valB b = true then
    match sep a b with
    | some i => some (0, i)
    | none => match sep b a with
      | some i => some (1, i)
      | none => none
  else none
def overP (a b : List Pt) : Bool := valB a && valB b && (sideP a b).isNone
/-- The corners that two polygons have in common. -/
def comP (a b : List Pt) : List Pt := (a ++ b).filter fun c => decide (0 ≤ posP a c) && decide (0 ≤ posP b c)
def dirP (s e : Pt) (l : List Pt) : Pt × Pt := if l.any fun c => decide (0 < turn s e c) then (s, e) else (e, s)
def seamP (a b : List Pt) : Option (Pt × Pt) :=
  if (sideP a b).isSome = true then
    match comP a b with
    | [] => none
    | f :: r => match (f :: r).find? fun c => decide (f ≠ c) with
      | some c => some (dirP f c a)
      | none => none
  else none
/-- The parts of a cut. -/
def runP (l : List Pt) (i k : Nat) : List Pt := if i ≤ k then (l.take (k + 1)).drop i else l.drop i ++ l.take (k + 1)
def cutP (l : List Pt) (i k : Int) : Option (List Pt × List Pt) :=
  if valB l = true ∧ 0 ≤ min i k ∧ max i k < l.length then
    if min (runP l i.toNat k.toNat).length (runP l k.toNat i.toNat).length < 3 then none
    else some (runP l i.toNat k.toNat, runP l k.toNat i.toNat)
  else none
def shf (l : List Pt) (dx dy : Int) : List Pt := l.map fun p => (p.1 + dx, p.2 + dy)
/-- A sum as the machine makes it. -/
def wr (x : Int) : Int := (x + 9223372036854775808) % 18446744073709551616 - 9223372036854775808
def moveP (l : List Pt) (dx dy : Int) : Option (List Pt) :=
  if valB l = true then
    if (shf l dx dy).all onB then some (shf l dx dy) else none
  else none
end Pln
/- PlnGeo: Plain mathematics of layer 7: convex polygons. Nothing of the program. -/
namespace Pln

theorem turn_rot (a b c : Pt) : turn b c a = turn a b c := by unfold turn; grind
theorem turn_rot' (a b c : Pt) : turn c a b = turn a b c := by unfold turn; grind
theorem turn_swap (a b c : Pt) : turn b a c = -turn a b c := by unfold turn; grind
theorem turn_swap' (a b c : Pt) : turn a c b = -turn a b c := by unfold turn; grind
theorem turn_l (a b : Pt) : turn a b a = 0 := by unfold turn; grind
theorem turn_r (a b : Pt) : turn a b b = 0 := by unfold turn; grind
theorem turn_same (a c : Pt) : turn a a c = 0 := by unfold turn; grind
/-- Four places: the turn with one of three is the sum of those with the others. -/
theorem turn_four (a b c d : Pt) : turn a b c = turn a b d + turn b c d + turn c a d := by unfold turn; grind
/-- A function that is affine. -/
structure Aff (g : Pt → Int) : Prop where
  out : ∃ A B C : Int, ∀ p, g p = A * p.1 + B * p.2 + C
theorem aff_turn (a b : Pt) : Aff (turn a b) := ⟨-(b.2 - a.2), b.1 - a.1, (b.2 - a.2) * a.1 - (b.1 - a.1) * a.2, fun p => by unfold turn; grind⟩
theorem aff_neg {g : Pt → Int} (h : Aff g) : Aff fun p => -(g p) := by
  obtain ⟨A, B, C, e⟩ := h; exact ⟨-A, -B, -C, fun p => by rw [e]; grind⟩
theorem aff_add {f g : Pt → Int} (h : Aff f) (k : Aff g) : Aff fun p => f p + g p := by
  obtain ⟨A, B, C, e⟩ := h; obtain ⟨A', B', C', e'⟩ := k
  exact ⟨A + A', B + B', C + C', fun p => by rw [e, e']; grind⟩
theorem plu {f : Pt → Int} (hf : Aff f) (o b c d : Pt) : (f c - f o) * turn o b d = (f b - f o) * turn o c d + (f d - f o) * turn o b c := by
  obtain ⟨A, B, C, e⟩ := hf
  rw [e, e, e, e]; unfold turn; grind
theorem pos_of_mul {a b : Int} (ha : 0 < a) (h : 0 < a * b) : 0 < b := by
  rcases Int.lt_or_le 0 b with h2 | h2
  · exact h2
  · have := Int.mul_nonneg (Int.le_of_lt ha) (by omega : 0 ≤ -b); rw [Int.mul_neg] at this; omega
theorem nonneg_of_mul {a b : Int} (ha : 0 < a) (h : 0 ≤ a * b) : 0 ≤ b := by
  rcases Int.lt_or_le b 0 with h2 | h2
  · have := Int.mul_pos ha (by omega : 0 < -b); rw [Int.mul_neg] at this; omega
  · exact h2
/-- An apex: a function that is greater everywhere else. -/
def Apex (l : List Pt) (o : Pt) : Prop := ∃ f : Pt → Int, Aff f ∧ ∀ p ∈ l, p ≠ o → f o < f p
theorem trans_lt {l : List Pt} {o b c d : Pt} (h : Apex l o) (hb : b ∈ l) (hc : c ∈ l) (hd : d ∈ l) (b0 : b ≠ o) (c0 : c ≠ o) (d0 : d ≠ o)
    (h1 : 0 < turn o b c) (h2 : 0 ≤ turn o c d) : 0 < turn o b d := by
  obtain ⟨f, hf, hp⟩ := h
  have e := plu hf o b c d
  have fb := hp b hb b0; have fc := hp c hc c0; have fd := hp d hd d0
  have m1 := Int.mul_nonneg (by omega : 0 ≤ f b - f o) h2
  have m2 := Int.mul_pos (by omega : 0 < f d - f o) h1
  exact pos_of_mul (by omega : 0 < f c - f o) (by omega)
theorem trans_lt' {l : List Pt} {o b c d : Pt} (h : Apex l o) (hb : b ∈ l) (hc : c ∈ l) (hd : d ∈ l) (b0 : b ≠ o) (c0 : c ≠ o) (d0 : d ≠ o)
    (h1 : 0 ≤ turn o b c) (h2 : 0 < turn o c d) : 0 < turn o b d := by
  obtain ⟨f, hf, hp⟩ := h
  have e := plu hf o b c d
  have fb := hp b hb b0; have fc := hp c hc c0; have fd := hp d hd d0
  have m1 := Int.mul_pos (by omega : 0 < f b - f o) h2
  have m2 := Int.mul_nonneg (by omega : 0 ≤ f d - f o) h1
  exact pos_of_mul (by omega : 0 < f c - f o) (by omega)
theorem trans_eq {l : List Pt} {o b c d : Pt} (h : Apex l o) (hc : c ∈ l) (c0 : c ≠ o)
    (h1 : turn o b c = 0) (h2 : turn o c d = 0) : turn o b d = 0 := by
  obtain ⟨f, hf, hp⟩ := h
  have e := plu hf o b c d
  have fc := hp c hc c0
  rw [h1, h2, Int.mul_zero, Int.mul_zero] at e
  rcases Int.mul_eq_zero.1 e with e | e
  · omega
  · exact e

namespace Val
variable {l : List Pt}
theorem nxl (_v : Val l) {i : Nat} (hi : i < l.length) : (i + 1) % l.length < l.length := mod_lt' hi
theorem nx_ne (v : Val l) {i : Nat} (hi : i < l.length) : (i + 1) % l.length ≠ i := by
  have := v.lo
  rcases Nat.lt_or_ge (i + 1) l.length with h | h
  · rw [Nat.mod_eq_of_lt h]; omega
  · rw [show i + 1 = l.length by omega, Nat.mod_self]; omega
/-- Some third corner. -/
theorem third (v : Val l) (i j : Nat) : ∃ k, k < l.length ∧ k ≠ i ∧ k ≠ j := by
  have := v.lo
  by_cases h0 : 0 ≠ i ∧ 0 ≠ j
  · exact ⟨0, by omega, h0.1, h0.2⟩
  · by_cases h1 : 1 ≠ i ∧ 1 ≠ j
    · exact ⟨1, by omega, h1.1, h1.2⟩
    · exact ⟨2, by omega, by omega, by omega⟩
theorem nonneg (v : Val l) {i k : Nat} (hi : i < l.length) (hk : k < l.length) : 0 ≤ turn (vx l i) (nx l i) (vx l k) := by
  by_cases a : k = i
  · subst a; rw [turn_l]; omega
  · by_cases b : k = (i + 1) % l.length
    · unfold nx; rw [← b, turn_r]; omega
    · have := v.left i hi k hk a b; omega
/-- The corner before. -/
def pre (l : List Pt) (i : Nat) : Nat := (i + l.length - 1) % l.length
theorem pre_lt (v : Val l) (i : Nat) : pre l i < l.length := Nat.mod_lt _ (by have := v.lo; omega)
theorem pre_nx (v : Val l) {i : Nat} (hi : i < l.length) : (pre l i + 1) % l.length = i := by
  have := v.lo
  unfold pre
  rcases i with _ | i
  · rw [Nat.zero_add, Nat.mod_eq_of_lt (by omega : l.length - 1 < l.length), show l.length - 1 + 1 = l.length by omega, Nat.mod_self]
  · rw [show i + 1 + l.length - 1 = i + l.length by omega, Nat.add_mod_right, Nat.mod_eq_of_lt (by omega : i < l.length), Nat.mod_eq_of_lt hi]
theorem pre_ne (v : Val l) {i : Nat} (hi : i < l.length) : pre l i ≠ i := by
  have h := v.nx_ne (v.pre_lt i); rw [v.pre_nx hi] at h; exact fun e => h e.symm
theorem pre_ne_nx (v : Val l) {i : Nat} (hi : i < l.length) : pre l i ≠ (i + 1) % l.length := by
  have := v.lo
  unfold pre
  rcases i with _ | i
  · rw [Nat.zero_add, Nat.mod_eq_of_lt (by omega : l.length - 1 < l.length), Nat.mod_eq_of_lt (by omega : 0 + 1 < l.length)]; omega
  · rw [show i + 1 + l.length - 1 = i + l.length by omega, Nat.add_mod_right, Nat.mod_eq_of_lt (by omega : i < l.length)]
    rcases Nat.lt_or_ge (i + 1 + 1) l.length with h | h
    · rw [Nat.mod_eq_of_lt h]; omega
    · rw [show i + 1 + 1 = l.length by omega, Nat.mod_self]; omega
theorem nx_pre (v : Val l) {i : Nat} (hi : i < l.length) : nx l (pre l i) = vx l i := by unfold nx; rw [v.pre_nx hi]
/-- What an edge and the corner before make. -/
theorem corner (v : Val l) {i : Nat} (hi : i < l.length) : 0 < turn (vx l (pre l i)) (vx l i) (nx l i) := by
  have h := v.left i hi (pre l i) (v.pre_lt i) (v.pre_ne hi) (v.pre_ne_nx hi)
  rwa [turn_rot] at h
/-- No two corners are the same. -/
theorem inj (v : Val l) {i k : Nat} (hi : i < l.length) (hk : k < l.length) (e : vx l i = vx l k) : i = k := by
  by_cases h : i = k
  · exact h
  · exfalso
    by_cases h2 : k = (i + 1) % l.length
    · have hc := v.corner hi
      have e2 : nx l i = vx l i := by unfold nx; rw [← h2, e]
      rw [e2, turn_r] at hc; omega
    · have := v.left i hi k hk (fun x => h x.symm) h2
      rw [← e, turn_l] at this; omega
theorem ne (v : Val l) {i k : Nat} (hi : i < l.length) (hk : k < l.length) (h : i ≠ k) : vx l i ≠ vx l k := fun e => h (v.inj hi hk e)
theorem apex (v : Val l) {i : Nat} (hi : i < l.length) : Apex l (vx l i) := by
  refine ⟨fun p => turn (vx l i) (nx l i) p + turn (vx l (pre l i)) (vx l i) p, aff_add (aff_turn _ _) (aff_turn _ _), fun p hp hne => ?_⟩
  obtain ⟨k, hk, rfl⟩ := mem_vx hp
  have hki : k ≠ i := fun e => hne (by rw [e])
  dsimp only
  rw [turn_l, turn_r]
  have h1 := v.nonneg hi hk
  have h2 := v.nonneg (v.pre_lt i) hk
  rw [v.nx_pre hi] at h2
  by_cases h3 : k = (i + 1) % l.length
  · have := v.corner hi
    have e : nx l i = vx l k := by unfold nx; rw [h3]
    rw [e] at this; omega
  · have := v.left i hi k hk hki h3
    omega
/-- Corners in their order turn to the left. -/
theorem ordered (v : Val l) {i j : Nat} (hij : i < j) : ∀ {k : Nat}, j < k → k < l.length → 0 < turn (vx l i) (vx l j) (vx l k)
  | k + 1, h, hk => by
    have st : ∀ j, i < j → j + 1 < l.length → 0 < turn (vx l i) (vx l j) (vx l (j + 1)) := fun j h1 h2 => by
      have := v.left j (by omega) i (by omega) (by omega) (by rw [Nat.mod_eq_of_lt h2]; omega)
      rw [nx_in h2] at this; rwa [← turn_rot (vx l i) (vx l j) (vx l (j + 1))]
    by_cases e : j = k
    · subst e; exact st j hij hk
    · have ih := ordered v hij (k := k) (by omega) (by omega)
      exact trans_lt (v.apex (by omega : i < l.length)) (vx_mem (by omega)) (vx_mem (by omega)) (vx_mem hk) (v.ne (by omega) (by omega) (by omega)) (v.ne (by omega) (by omega) (by omega)) (v.ne (by omega) (by omega) (by omega)) ih (Int.le_of_lt (st k (by omega) hk))
/-- A corner where an affine function is greatest. -/
theorem top (v : Val l) (g : Pt → Int) : ∃ i, i < l.length ∧ ∀ k, k < l.length → g (vx l k) ≤ g (vx l i) := by
  have : ∀ n, n ≤ l.length → 0 < n → ∃ i, i < l.length ∧ ∀ k, k < n → g (vx l k) ≤ g (vx l i) := by
    intro n
    induction n with
    | zero => intro _ h; omega
    | succ n ih =>
      intro h _
      by_cases h0 : n = 0
      · exact ⟨0, by omega, fun k hk => by rw [show k = 0 by omega]; omega⟩
      · obtain ⟨i, hi, hm⟩ := ih (by omega) (by omega)
        by_cases hg : g (vx l n) ≤ g (vx l i)
        · exact ⟨i, hi, fun k hk => by
            by_cases e : k = n
            · rw [e]; exact hg
            · exact hm k (by omega)⟩
        · exact ⟨n, by omega, fun k hk => by
            by_cases e : k = n
            · rw [e]; omega
            · have := hm k (by omega); omega⟩
  exact this l.length (Nat.le_refl _) (by have := v.lo; omega)
/-- What is not outside lies, by any affine function, not beyond all corners. -/
theorem support (v : Val l) {g : Pt → Int} (hg : Aff g) {p : Pt} (hp : ∀ i, i < l.length → 0 ≤ turn (vx l i) (nx l i) p) : ∃ i, i < l.length ∧ g p ≤ g (vx l i) := by
  obtain ⟨i, hi, hm⟩ := v.top g
  refine ⟨i, hi, ?_⟩
  have hT := v.corner hi
  have h1 := hp i hi
  have h2 := hp (pre l i) (v.pre_lt i)
  rw [v.nx_pre hi] at h2
  have g1 := hm ((i + 1) % l.length) (v.nxl hi)
  have g2 := hm (pre l i) (v.pre_lt i)
  generalize vx l (pre l i) = a at *
  generalize hb : nx l i = b at *
  have g1' : g b ≤ g (vx l i) := by rw [← hb]; exact g1
  generalize vx l i = o at *
  have e : turn a o b * (g p - g o) = turn a o p * (g b - g o) + turn o b p * (g a - g o) := by
    obtain ⟨A, B, C, e⟩ := hg
    rw [e, e, e, e]; unfold turn; grind
  have m1 := Int.mul_nonneg h2 (by omega : 0 ≤ g o - g b)
  have m2 := Int.mul_nonneg h1 (by omega : 0 ≤ g o - g a)
  have e1 : turn a o p * (g b - g o) = -(turn a o p * (g o - g b)) := by grind
  have e2 : turn o b p * (g a - g o) = -(turn o b p * (g o - g a)) := by grind
  have m3 : 0 ≤ turn a o b * (g o - g p) := by
    have : turn a o b * (g o - g p) = -(turn a o b * (g p - g o)) := by grind
    omega
  have := nonneg_of_mul hT m3
  omega
/-- No edge separates a polygon from what has a place of its interior in it. -/
theorem not_sep {o : List Pt} (vo : Val o) {p : Pt} {s e : Pt} (h : 0 < turn s e p) (hp : ∀ i, i < o.length → 0 ≤ turn (vx o i) (nx o i) p) : ∃ c ∈ o, 0 < turn s e c := by
  obtain ⟨i, hi, hle⟩ := vo.support (aff_turn s e) hp
  exact ⟨vx o i, vx_mem hi, by omega⟩
theorem no_self (v : Val l) {i : Nat} (hi : i < l.length) : sepB l l i = false := by
  obtain ⟨k, hk, h1, h2⟩ := v.third i ((i + 1) % l.length)
  exact sepB_no.2 ⟨vx l k, vx_mem hk, v.left i hi k hk h1 h2⟩
end Val
theorem sep_some {l o : List Pt} {i : Nat} (h : sep l o = some i) : i < l.length ∧ sepB l o i = true ∧ ∀ j, j < i → sepB l o j = false := by
  obtain ⟨a, b, c, d⟩ := sepF_some h; exact ⟨by omega, c, fun j hj => d j (by omega) hj⟩
theorem sep_none {l o : List Pt} (h : sep l o = none) : ∀ j, j < l.length → sepB l o j = false := fun j hj => sepF_none h j (by omega) (by omega)
theorem sep_none_iff {l o : List Pt} : sep l o = none ↔ ∀ j, j < l.length → sepB l o j = false := by
  refine ⟨sep_none, fun h => ?_⟩
  rcases e : sep l o with _ | i
  · rfl
  · have := sep_some e; rw [h i this.1] at this; simp at this
/-- Two polygons with no separating edge. -/
def Meet (a b : List Pt) : Prop := (∀ j, j < a.length → sepB a b j = false) ∧ ∀ j, j < b.length → sepB b a j = false
theorem side_none {a b : List Pt} (va : valB a = true) (vb : valB b = true) : sideP a b = none ↔ Meet a b := by
  unfold sideP Meet; rw [if_pos ⟨va, vb⟩, ← sep_none_iff, ← sep_none_iff]
  rcases sep a b with _ | i
  · rcases sep b a with _ | i <;> simp
  · simp
theorem over_iff {a b : List Pt} (va : valB a = true) (vb : valB b = true) : overP a b = true ↔ Meet a b := by
  unfold overP; rw [va, vb, ← side_none va vb]; simp
theorem over_comm {a b : List Pt} (va : valB a = true) (vb : valB b = true) : overP a b = overP b a := by
  rw [Bool.eq_iff_iff, over_iff va vb, over_iff vb va]; exact And.comm
theorem over_self {a : List Pt} (va : valB a = true) : overP a a = true := by
  rw [over_iff va va]; have v := (valB_iff a).1 va; exact ⟨fun j hj => v.no_self hj, fun j hj => v.no_self hj⟩
/-- A place in the interior of both: nothing separates. -/
theorem meet_of_place {a b : List Pt} (va : Val a) (vb : Val b) {p : Pt} (ha : ∀ i, i < a.length → 0 < turn (vx a i) (nx a i) p) (hb : ∀ i, i < b.length → 0 < turn (vx b i) (nx b i) p) : Meet a b :=
  ⟨fun j hj => sepB_no.2 (vb.not_sep (ha j hj) fun i hi => Int.le_of_lt (hb i hi)), fun j hj => sepB_no.2 (va.not_sep (hb j hj) fun i hi => Int.le_of_lt (ha i hi))⟩
/-- Twice the size. -/
theorem dbl_len (l : List Pt) : (dbl l).length = l.length := by unfold dbl; simp
theorem dbl_vx (l : List Pt) (i : Nat) : vx (dbl l) i = (2 * (vx l i).1, 2 * (vx l i).2) := by
  unfold dbl vx
  rw [List.getD_eq_getElem?_getD, List.getD_eq_getElem?_getD, List.getElem?_map]
  rcases l[i]? with _ | p <;> rfl
theorem dbl_nx (l : List Pt) (i : Nat) : nx (dbl l) i = (2 * (nx l i).1, 2 * (nx l i).2) := by unfold nx; rw [dbl_len, dbl_vx]
theorem dbl_turn (l : List Pt) (i : Nat) (x y : Int) : turn (vx (dbl l) i) (nx (dbl l) i) (2 * x + 1, 2 * y + 1) = turn (vx l i) (nx l i) (x, y) + turn (vx l i) (nx l i) (x + 1, y) + turn (vx l i) (nx l i) (x, y + 1) + turn (vx l i) (nx l i) (x + 1, y + 1) := by
  rw [dbl_vx, dbl_nx]; unfold turn; grind
theorem val_dbl_turn (l : List Pt) (i k : Nat) : turn (vx (dbl l) i) (nx (dbl l) i) (vx (dbl l) k) = 4 * turn (vx l i) (nx l i) (vx l k) := by
  rw [dbl_vx, dbl_nx, dbl_vx]; unfold turn; grind
/-- A cell whose corners are not outside. -/
theorem cell_in {l : List Pt} (v : Val l) {x y : Int} (h0 : 0 ≤ posP l (x, y)) (h1 : 0 ≤ posP l (x + 1, y)) (h2 : 0 ≤ posP l (x, y + 1)) (h3 : 0 ≤ posP l (x + 1, y + 1)) : posP (dbl l) (2 * x + 1, 2 * y + 1) = 1 := by
  rw [pos_one, dbl_len]
  intro i hi
  rw [dbl_turn]
  have a0 := pos_ge.1 h0 i hi; have a1 := pos_ge.1 h1 i hi; have a2 := pos_ge.1 h2 i hi; have a3 := pos_ge.1 h3 i hi
  have hne := v.ne hi (v.nxl hi) (fun e => v.nx_ne hi e.symm)
  have hne' : vx l i ≠ nx l i := hne
  generalize vx l i = s at *
  generalize nx l i = e at *
  rcases Int.lt_or_le 0 (turn s e (x, y) + turn s e (x + 1, y) + turn s e (x, y + 1) + turn s e (x + 1, y + 1)) with h | h
  · exact h
  · exfalso
    have b1 : turn s e (x + 1, y) = turn s e (x, y) - (e.2 - s.2) := by unfold turn; grind
    have b2 : turn s e (x, y + 1) = turn s e (x, y) + (e.1 - s.1) := by unfold turn; grind
    exact hne' (Prod.ext (by omega) (by omega))
/-- Halfway. -/
theorem half_turn (s e : Pt) {px py qx qy hx hy : Int} (h1 : 2 * hx = px + qx) (h2 : 2 * hy = py + qy) : 2 * turn s e (hx, hy) = turn s e (px, py) + turn s e (qx, qy) := by
  unfold turn; dsimp only; grind
theorem half_in {l : List Pt} {px py qx qy hx hy : Int} (h1 : 2 * hx = px + qx) (h2 : 2 * hy = py + qy) (hp : 0 ≤ posP l (px, py)) (hq : 0 ≤ posP l (qx, qy)) : 0 ≤ posP l (hx, hy) ∧ max (posP l (px, py)) (posP l (qx, qy)) ≤ posP l (hx, hy) := by
  have g : 0 ≤ posP l (hx, hy) := pos_ge.2 fun i hi => by
    have := half_turn (vx l i) (nx l i) h1 h2
    have := pos_ge.1 hp i hi; have := pos_ge.1 hq i hi; omega
  refine ⟨g, ?_⟩
  have one : posP l (px, py) = 1 ∨ posP l (qx, qy) = 1 → posP l (hx, hy) = 1 := fun h => pos_one.2 fun i hi => by
    have e := half_turn (vx l i) (nx l i) h1 h2
    have a := pos_ge.1 hp i hi; have b := pos_ge.1 hq i hi
    rcases h with h | h
    · have := pos_one.1 h i hi; omega
    · have := pos_one.1 h i hi; omega
  rcases pos_cases l (px, py) with h | h | h
  · rw [one (.inl h)]; have := pos_cases l (qx, qy); omega
  · rcases pos_cases l (qx, qy) with k | k | k
    · rw [one (.inr k)]; omega
    · omega
    · omega
  · omega
end Pln
/- PlnHull: Plain mathematics of layer 7: the convex hull of a list of places, corner after corner, is a valid polygon; a polygon that begins at another corner. Nothing of the program. -/
namespace Pln

def far (a b : Pt) : Int := (a.1 - b.1) * (a.1 - b.1) + (a.2 - b.2) * (a.2 - b.2)
/-- The lowest place so far, the leftmost one of several. -/
def fstP (l : List Pt) : Nat → Pt
  | 0 => vx l 0
  | k + 1 => if (vx l k).2 < (fstP l k).2 ∨ (vx l k).2 = (fstP l k).2 ∧ (vx l k).1 < (fstP l k).1 then vx l k else fstP l k
/-- The next corner so far. -/
def scn (l : List Pt) (o : Pt) : Nat → Pt
  | 0 => o
  | k + 1 => if vx l k = o then scn l o k else if scn l o k = o ∨ turn o (scn l o k) (vx l k) < 0 ∨ turn o (scn l o k) (vx l k) = 0 ∧ far o (scn l o k) < far o (vx l k) then vx l k else scn l o k
def nxtP (l : List Pt) (o : Pt) : Pt := scn l o l.length
/-- The corners from here on: those found, and at most n more. -/
def hulF (l : List Pt) (f : Pt) : Nat → List Pt → Pt → List Pt
  | 0, out, _ => out
  | n + 1, out, o => if nxtP l o = o ∨ nxtP l o = f then out else hulF l f n (out ++ [nxtP l o]) (nxtP l o)
def hulP (l : List Pt) : List Pt := hulF l (fstP l l.length) l.length [fstP l l.length] (fstP l l.length)

theorem fst_mem {l : List Pt} (h0 : 0 < l.length) : ∀ {k : Nat}, k ≤ l.length → fstP l k ∈ l
  | 0, _ => vx_mem h0
  | k + 1, h => by
    rw [fstP]; split
    · exact vx_mem (by omega)
    · exact fst_mem h0 (by omega)
theorem fst_least {l : List Pt} : ∀ {k : Nat}, ∀ i, i < k → (fstP l k).2 < (vx l i).2 ∨ (fstP l k).2 = (vx l i).2 ∧ (fstP l k).1 ≤ (vx l i).1
  | k + 1, i, hi => by
    have ih : ∀ i, i < k → (fstP l k).2 < (vx l i).2 ∨ (fstP l k).2 = (vx l i).2 ∧ (fstP l k).1 ≤ (vx l i).1 := fun i hi => fst_least i hi
    rw [fstP]
    by_cases e : i = k
    · subst e; split <;> omega
    · have := ih i (by omega)
      split <;> omega
/-- All of these places are on the map. -/
def Ons (l : List Pt) : Prop := ∀ p ∈ l, On p
theorem fst_apex {l : List Pt} (h0 : 0 < l.length) (ho : Ons l) : Apex l (fstP l l.length) := by
  refine ⟨fun p => p.1 + 100 * p.2, ⟨1, 100, 0, fun p => by grind⟩, fun p hp hne => ?_⟩
  obtain ⟨i, hi, rfl⟩ := mem_vx hp
  have h := fst_least (l := l) (k := l.length) i hi
  have a := ho _ hp
  have b := ho _ (fst_mem (l := l) h0 (Nat.le_refl _))
  have := a.x0; have := a.x1; have := b.x0; have := b.x1
  dsimp only
  rcases h with h | ⟨h, k⟩
  · omega
  · rcases Int.lt_or_le (fstP l l.length).1 (vx l i).1 with h3 | h3
    · omega
    · exact absurd (Prod.ext (by omega) (by omega)) hne
/-- The edge from a to b has all places to its left, or on it. -/
structure Edge (l : List Pt) (a b : Pt) : Prop where
  mem : b ∈ l
  ne : b ≠ a
  all : ∀ p ∈ l, p ≠ a → 0 < turn a b p ∨ turn a b p = 0 ∧ far a p ≤ far a b
def Part (l : List Pt) (o s : Pt) (k : Nat) : Prop := (s = o ∧ ∀ i, i < k → vx l i = o) ∨
  (s ∈ l ∧ s ≠ o ∧ ∀ i, i < k → vx l i ≠ o → 0 < turn o s (vx l i) ∨ turn o s (vx l i) = 0 ∧ far o (vx l i) ≤ far o s)
theorem scn_part {l : List Pt} {o : Pt} (ha : Apex l o) : ∀ {k : Nat}, k ≤ l.length → Part l o (scn l o k) k
  | 0, _ => .inl ⟨rfl, fun i hi => by omega⟩
  | k + 1, hk => by
    have ih := scn_part ha (k := k) (by omega)
    have hm : vx l k ∈ l := vx_mem (by omega)
    rw [scn]
    by_cases e : vx l k = o
    · rw [if_pos e]
      rcases ih with ⟨h1, h2⟩ | ⟨h1, h2, h3⟩
      · exact .inl ⟨h1, fun i hi => by
          by_cases e2 : i = k
          · rw [e2]; exact e
          · exact h2 i (by omega)⟩
      · exact .inr ⟨h1, h2, fun i hi hne => by
          by_cases e2 : i = k
          · rw [e2] at hne; exact absurd e hne
          · exact h3 i (by omega) hne⟩
    · rw [if_neg e]
      generalize scn l o k = s at ih ⊢
      have last : ∀ q, (∀ i, i < k → vx l i ≠ o → 0 < turn o q (vx l i) ∨ turn o q (vx l i) = 0 ∧ far o (vx l i) ≤ far o q) → (0 < turn o q (vx l k) ∨ turn o q (vx l k) = 0 ∧ far o (vx l k) ≤ far o q) → q ∈ l → q ≠ o → Part l o q (k + 1) := fun q h1 h2 h3 h4 => .inr ⟨h3, h4, fun i hi hne => by
        by_cases e2 : i = k
        · rw [e2]; exact h2
        · exact h1 i (by omega) hne⟩
      rcases ih with ⟨h1, h2⟩ | ⟨h1, h2, h3⟩
      · rw [if_pos (.inl h1)]
        exact last _ (fun i hi hne => absurd (h2 i hi) hne) (.inr ⟨turn_r _ _, Int.le_refl _⟩) hm e
      · by_cases c : s = o ∨ turn o s (vx l k) < 0 ∨ turn o s (vx l k) = 0 ∧ far o s < far o (vx l k)
        · rw [if_pos c]
          refine last _ (fun i hi hne => ?_) (.inr ⟨turn_r _ _, Int.le_refl _⟩) hm e
          have hi2 : vx l i ∈ l := vx_mem (by omega)
          rcases c with c | c | ⟨c, c2⟩
          · exact absurd c h2
          · have c3 : 0 < turn o (vx l k) s := by rw [turn_swap']; omega
            have h4 : 0 ≤ turn o s (vx l i) := by rcases h3 i hi hne with h | h <;> omega
            exact .inl (trans_lt ha hm h1 hi2 e h2 hne c3 h4)
          · have c3 : turn o (vx l k) s = 0 := by rw [turn_swap']; omega
            rcases h3 i hi hne with h | ⟨h, h'⟩
            · exact .inl (trans_lt' ha hm h1 hi2 e h2 hne (by omega) h)
            · exact .inr ⟨trans_eq ha h1 h2 c3 h, by omega⟩
        · rw [if_neg c]
          refine last _ h3 ?_ h1 h2
          have := fun a => c (.inr (.inl a)); have := fun a b => c (.inr (.inr ⟨a, b⟩))
          by_cases c2 : turn o s (vx l k) = 0
          · exact .inr ⟨c2, by have := this c2; omega⟩
          · exact .inl (by omega)
theorem nxt_edge {l : List Pt} {o : Pt} (ha : Apex l o) (hne : nxtP l o ≠ o) : Edge l o (nxtP l o) := by
  rcases scn_part ha (Nat.le_refl l.length) with ⟨h1, _⟩ | ⟨h1, h2, h3⟩
  · exact absurd h1 hne
  · exact ⟨h1, h2, fun p hp hpn => by obtain ⟨i, hi, rfl⟩ := mem_vx hp; exact h3 i hi hpn⟩
theorem nxt_all {l : List Pt} {o : Pt} (ha : Apex l o) (he : nxtP l o = o) : ∀ p ∈ l, p = o := by
  rcases scn_part ha (Nat.le_refl l.length) with ⟨_, h2⟩ | ⟨_, h2, _⟩
  · exact fun p hp => by obtain ⟨i, hi, rfl⟩ := mem_vx hp; exact h2 i hi
  · exact absurd he h2
theorem mul_bd {x y : Int} (h1 : -40 ≤ x) (h2 : x ≤ 40) (h3 : -40 ≤ y) (h4 : y ≤ 40) : x * y ≤ 1600 := by
  have a := Int.mul_nonneg (by omega : 0 ≤ 40 - x) (by omega : 0 ≤ 40 + y)
  have b := Int.mul_nonneg (by omega : 0 ≤ 40 + x) (by omega : 0 ≤ 40 - y)
  grind
theorem sq_pos {x : Int} (h : x ≠ 0) : 0 < x * x := by
  rcases Int.lt_or_gt_of_ne h with h | h
  · have := Int.mul_pos (by omega : 0 < -x) (by omega : 0 < -x); grind
  · exact Int.mul_pos h h
theorem sq_nonneg (x : Int) : 0 ≤ x * x := by
  by_cases h : x = 0
  · subst h; omega
  · exact Int.le_of_lt (sq_pos h)
theorem far_pos {a b : Pt} (h : a ≠ b) : 0 < far a b := by
  unfold far
  have h1 := sq_nonneg (a.1 - b.1); have h2 := sq_nonneg (a.2 - b.2)
  by_cases e : a.1 = b.1
  · have : a.2 - b.2 ≠ 0 := fun e2 => h (Prod.ext e (by omega))
    have := sq_pos this; omega
  · have := sq_pos (by omega : a.1 - b.1 ≠ 0); omega
/-- The end of an edge is an apex. -/
theorem edge_apex {l : List Pt} {a b : Pt} (ho : Ons l) (ha : a ∈ l) (h : Edge l a b) : Apex l b := by
  refine ⟨fun p => 4000 * turn a b p - ((b.1 - a.1) * (p.1 - b.1) + (b.2 - a.2) * (p.2 - b.2)), ?_, fun p hp hne => ?_⟩
  · exact ⟨-4000 * (b.2 - a.2) - (b.1 - a.1), 4000 * (b.1 - a.1) - (b.2 - a.2), 4000 * ((b.2 - a.2) * a.1 - (b.1 - a.1) * a.2) + (b.1 - a.1) * b.1 + (b.2 - a.2) * b.2, fun p => by unfold turn; grind⟩
  · dsimp only
    rw [turn_r]
    have e1 : (b.1 - a.1) * (b.1 - b.1) + (b.2 - a.2) * (b.2 - b.2) = 0 := by grind
    rw [e1]
    have f := far_pos hne
    by_cases hpa : p = a
    · subst hpa
      rw [turn_l]; unfold far at f
      have e2 : (b.1 - p.1) * (p.1 - b.1) + (b.2 - p.2) * (p.2 - b.2) = -((p.1 - b.1) * (p.1 - b.1) + (p.2 - b.2) * (p.2 - b.2)) := by grind
      rw [e2]; omega
    · rcases h.all p hp hpa with h1 | ⟨h1, h2⟩
      · have oa := ho a ha; have ob := ho b h.mem; have op := ho p hp
        have := oa.x0; have := oa.x1; have := oa.y0; have := oa.y1
        have := ob.x0; have := ob.x1; have := ob.y0; have := ob.y1
        have := op.x0; have := op.x1; have := op.y0; have := op.y1
        have m1 := mul_bd (x := b.1 - a.1) (y := p.1 - b.1) (by omega) (by omega) (by omega) (by omega)
        have m2 := mul_bd (x := b.2 - a.2) (y := p.2 - b.2) (by omega) (by omega) (by omega) (by omega)
        omega
      · rw [h1]
        have e2 : far a p = far p b + 2 * ((b.1 - a.1) * (p.1 - b.1) + (b.2 - a.2) * (p.2 - b.2)) + far a b := by unfold far; grind
        omega
theorem same_sign {p q x y : Int} (hp : 0 < p) (hq : 0 < q) (h : p * x = q * y) : (0 < x → 0 < y) ∧ (x < 0 → y < 0) := by
  constructor
  · intro hx; exact pos_of_mul hq (by have := Int.mul_pos hp hx; omega)
  · intro hx
    have := Int.mul_pos hp (by omega : 0 < -x)
    have h2 : 0 < q * -y := by grind
    have := pos_of_mul hq h2; omega
/-- Three apexes are not on one line. -/
theorem col3 {l : List Pt} {a b c : Pt} (Ha : Apex l a) (Hb : Apex l b) (Hc : Apex l c) (ha : a ∈ l) (hb : b ∈ l) (hc : c ∈ l) (ab : a ≠ b) (ac : a ≠ c) (bc : b ≠ c) : turn a b c ≠ 0 := by
  intro h
  obtain ⟨f, ⟨A, B, C, ef⟩, hf⟩ := Ha
  obtain ⟨g, ⟨A', B', C', eg⟩, hg⟩ := Hb
  obtain ⟨k, ⟨A'', B'', C'', ek⟩, hk⟩ := Hc
  have f1 := hf b hb (fun e => ab e.symm); have f2 := hf c hc (fun e => ac e.symm)
  have g1 := hg a ha ab; have g2 := hg c hc (fun e => bc e.symm)
  have k1 := hk a ha ac; have k2 := hk b hb bc
  have x1 : (f c - f a) * (b.1 - a.1) = (f b - f a) * (c.1 - a.1) := by rw [ef, ef, ef]; unfold turn at h; grind
  have y1 : (f c - f a) * (b.2 - a.2) = (f b - f a) * (c.2 - a.2) := by rw [ef, ef, ef]; unfold turn at h; grind
  have x2 : (g c - g b) * (a.1 - b.1) = (g a - g b) * (c.1 - b.1) := by rw [eg, eg, eg]; unfold turn at h; grind
  have y2 : (g c - g b) * (a.2 - b.2) = (g a - g b) * (c.2 - b.2) := by rw [eg, eg, eg]; unfold turn at h; grind
  have x3 : (k b - k c) * (a.1 - c.1) = (k a - k c) * (b.1 - c.1) := by rw [ek, ek, ek]; unfold turn at h; grind
  have y3 : (k b - k c) * (a.2 - c.2) = (k a - k c) * (b.2 - c.2) := by rw [ek, ek, ek]; unfold turn at h; grind
  have s1 := same_sign (by omega) (by omega) x1; have s2 := same_sign (by omega) (by omega) x2; have s3 := same_sign (by omega) (by omega) x3
  have t1 := same_sign (by omega) (by omega) y1; have t2 := same_sign (by omega) (by omega) y2; have t3 := same_sign (by omega) (by omega) y3
  have ex : b.1 = a.1 := by
    rcases Int.lt_trichotomy b.1 a.1 with h | h | h
    · have := s1.2 (by omega); have := s2.1 (by omega); have := s3.1 (by omega); omega
    · exact h
    · have := s1.1 (by omega); have := s2.2 (by omega); have := s3.2 (by omega); omega
  have ey : b.2 = a.2 := by
    rcases Int.lt_trichotomy b.2 a.2 with h | h | h
    · have := t1.2 (by omega); have := t2.1 (by omega); have := t3.1 (by omega); omega
    · exact h
    · have := t1.1 (by omega); have := t2.2 (by omega); have := t3.2 (by omega); omega
  exact ab (Prod.ext ex.symm ey.symm)
/-- Two edges don't end at the same corner. -/
theorem edge_inj {l : List Pt} {a b c : Pt} (Ha : Apex l a) (Hb : Apex l b) (Hc : Apex l c) (ha : a ∈ l) (hb : b ∈ l) (h1 : Edge l a c) (h2 : Edge l b c) : a = b := by
  by_cases e : a = b
  · exact e
  · exfalso
    have t1 := h1.all b hb (fun x => e x.symm)
    have t2 := h2.all a ha e
    have e1 : turn a c b = -turn a b c := by rw [turn_swap']
    have e2 : turn b c a = turn a b c := by rw [turn_rot]
    have := col3 Ha Hb Hc ha hb h1.mem e (fun x => h1.ne x.symm) (fun x => h2.ne x.symm)
    omega
/-- What holds of the corners found so far. -/
structure Way (l : List Pt) (f : Pt) (out : List Pt) (o : Pt) : Prop where
  pos : 0 < out.length
  first : vx out 0 = f
  last : vx out (out.length - 1) = o
  nodup : ∀ i, i < out.length → ∀ j, j < out.length → vx out i = vx out j → i = j
  mem : ∀ i, i < out.length → vx out i ∈ l
  apex : ∀ i, i < out.length → Apex l (vx out i)
  edge : ∀ i, i + 1 < out.length → Edge l (vx out i) (vx out (i + 1))
theorem vx_app_l {a b : List Pt} {i : Nat} (h : i < a.length) : vx (a ++ b) i = vx a i := by
  unfold vx; rw [List.getD_eq_getElem?_getD, List.getD_eq_getElem?_getD, List.getElem?_append_left h]
theorem vx_app_r {a b : List Pt} (i : Nat) : vx (a ++ b) (a.length + i) = vx b i := by
  unfold vx; rw [List.getD_eq_getElem?_getD, List.getD_eq_getElem?_getD, List.getElem?_append_right (by omega), show a.length + i - a.length = i by omega]
theorem way_start {l : List Pt} (h0 : 0 < l.length) (ho : Ons l) : Way l (fstP l l.length) [fstP l l.length] (fstP l l.length) :=
  ⟨by simp, rfl, rfl, fun i hi j hj _ => by simp at hi hj; omega, fun i hi => by simp at hi; subst hi; exact fst_mem h0 (Nat.le_refl _),
    fun i hi => by simp at hi; subst hi; exact fst_apex h0 ho, fun i hi => by simp at hi⟩
theorem way_step {l : List Pt} {f : Pt} {out : List Pt} {o : Pt} (ho : Ons l) (w : Way l f out o) (h1 : nxtP l o ≠ o) (h2 : nxtP l o ≠ f) : Way l f (out ++ [nxtP l o]) (nxtP l o) := by
  have hp := w.pos
  have hl : out.length - 1 < out.length := by omega
  have hom : o ∈ l := by rw [← w.last]; exact w.mem _ hl
  have hoa : Apex l o := by rw [← w.last]; exact w.apex _ hl
  have he := nxt_edge hoa h1
  have hna := edge_apex ho hom he
  have new : vx (out ++ [nxtP l o]) out.length = nxtP l o := vx_app_r (a := out) (b := [nxtP l o]) 0
  have hnew : ∀ i, i < out.length → vx out i ≠ nxtP l o := by
    intro i hi e
    rcases i with _ | i
    · rw [w.first] at e; exact h2 e.symm
    · have e1 := w.edge i hi
      rw [e] at e1
      have := edge_inj (w.apex i (by omega)) hoa hna (w.mem i (by omega)) hom e1 he
      rw [← w.last] at this
      have := w.nodup i (by omega) (out.length - 1) hl this
      omega
  have len : (out ++ [nxtP l o]).length = out.length + 1 := by simp
  have all : ∀ {P : Pt → Prop}, (∀ i, i < out.length → P (vx out i)) → P (nxtP l o) → ∀ i, i < (out ++ [nxtP l o]).length → P (vx (out ++ [nxtP l o]) i) := by
    intro P k1 k2 i hi
    rw [len] at hi
    by_cases e : i = out.length
    · rw [e, new]; exact k2
    · rw [vx_app_l (by omega)]; exact k1 i (by omega)
  refine ⟨by rw [len]; omega, by rw [vx_app_l hp]; exact w.first, by rw [len]; exact new, ?_, all w.mem he.mem, all w.apex hna, ?_⟩
  · intro i hi j hj e
    rw [len] at hi hj
    by_cases ei : i = out.length
    · by_cases ej : j = out.length
      · omega
      · rw [ei, new, vx_app_l (by omega)] at e; exact absurd e.symm (hnew j (by omega))
    · by_cases ej : j = out.length
      · rw [ej, new, vx_app_l (by omega)] at e; exact absurd e (hnew i (by omega))
      · rw [vx_app_l (by omega), vx_app_l (by omega)] at e; exact w.nodup i (by omega) j (by omega) e
  · intro i hi
    rw [len] at hi
    by_cases e : i + 1 = out.length
    · rw [e, new, vx_app_l (by omega), show i = out.length - 1 by omega, w.last]; exact he
    · rw [vx_app_l (by omega), vx_app_l (by omega)]; exact w.edge i (by omega)
theorem nodup_of {l : List Pt} (h : ∀ i, i < l.length → ∀ j, j < l.length → vx l i = vx l j → i = j) : l.Nodup := by
  rw [List.nodup_iff_pairwise_ne, List.pairwise_iff_getElem]
  intro i j hi hj hij e
  have := h i hi j hj (by rw [vx_eq hi, vx_eq hj]; exact e)
  omega
theorem length_le {a b : List Pt} (h : a.Nodup) (hs : ∀ p ∈ a, p ∈ b) : a.length ≤ b.length := by
  induction a generalizing b with
  | nil => simp
  | cons x t ih =>
    have hx : x ∈ b := hs x (by simp)
    have h2 := List.nodup_cons.1 h
    have := ih (b := b.erase x) h2.2 fun p hp => by
      have hne : p ≠ x := fun e => h2.1 (by rw [← e]; exact hp)
      exact (List.mem_erase_of_ne hne).2 (hs p (by simp [hp]))
    have hl : 0 < b.length := List.length_pos_of_mem hx
    rw [List.length_erase_of_mem hx] at this
    simp only [List.length_cons]; omega
theorem way_len {l : List Pt} {f : Pt} {out : List Pt} {o : Pt} (w : Way l f out o) : out.length ≤ l.length :=
  length_le (nodup_of w.nodup) fun p hp => by obtain ⟨i, hi, rfl⟩ := mem_vx hp; exact w.mem i hi
/-- A way that has come around is a valid polygon. -/
theorem way_val {l : List Pt} {f : Pt} {out : List Pt} {o : Pt} (ho : Ons l) (h8 : l.length ≤ 8) (w : Way l f out o) (h : nxtP l o = o ∨ nxtP l o = f) (h3 : 3 ≤ out.length) : Val out := by
  have hl : out.length - 1 < out.length := by omega
  have hom : o ∈ l := by rw [← w.last]; exact w.mem _ hl
  have hoa : Apex l o := by rw [← w.last]; exact w.apex _ hl
  have hlen := way_len w
  have hne : nxtP l o ≠ o := fun e => by
    have := nxt_all hoa e
    have h0 := this _ (w.mem 0 (by omega)); have h1 := this _ (w.mem 1 (by omega))
    have := w.nodup 0 (by omega) 1 (by omega) (by rw [h0, h1]); omega
  have he := nxt_edge hoa hne
  have hf : nxtP l o = f := h.resolve_left hne
  rw [hf] at he
  have edges : ∀ i, i < out.length → Edge l (vx out i) (nx out i) := by
    intro i hi
    rcases Nat.lt_or_ge (i + 1) out.length with h1 | h1
    · rw [nx_in h1]; exact w.edge i h1
    · rw [nx_last (by omega), w.first, show i = out.length - 1 by omega, w.last]; exact he
  refine ⟨h3, by omega, fun i hi => ho _ (w.mem i hi), fun i hi k hk h1 h2 => ?_⟩
  have e := edges i hi
  have n1 : vx out k ≠ vx out i := fun x => h1 (w.nodup k hk i hi x)
  have hm := mod_lt' hi
  have n2 : vx out k ≠ nx out i := fun x => h2 (w.nodup k hk _ hm x)
  have c := col3 (w.apex i hi) (w.apex _ hm) (w.apex k hk) (w.mem i hi) (w.mem _ hm) (w.mem k hk) (fun x => e.ne x.symm) (fun x => n1 x.symm) (fun x => n2 x.symm)
  have c' : turn (vx out i) (nx out i) (vx out k) ≠ 0 := c
  rcases e.all _ (w.mem k hk) n1 with h | h
  · exact h
  · exact absurd h.1 c'
theorem hul_way {l : List Pt} {f : Pt} (ho : Ons l) : ∀ {n : Nat} {out : List Pt} {o : Pt}, Way l f out o → l.length + 1 ≤ out.length + n → ∃ o', Way l f (hulF l f n out o) o' ∧ (nxtP l o' = o' ∨ nxtP l o' = f)
  | 0, out, o, w, h => by have := way_len w; omega
  | n + 1, out, o, w, h => by
    rw [hulF]
    by_cases c : nxtP l o = o ∨ nxtP l o = f
    · rw [if_pos c]; exact ⟨o, w, c⟩
    · rw [if_neg c]
      exact hul_way ho (way_step ho w (fun e => c (.inl e)) (fun e => c (.inr e))) (by simp; omega)
theorem hul_val {l : List Pt} (h0 : 0 < l.length) (h8 : l.length ≤ 8) (ho : Ons l) (h3 : 3 ≤ (hulP l).length) : Val (hulP l) := by
  obtain ⟨o, w, h⟩ := hul_way ho (way_start h0 ho) (n := l.length) (by simp; omega)
  exact way_val ho h8 w h h3
/-- More rounds than places are never wanted. -/
theorem hulF_more {l : List Pt} {f : Pt} (ho : Ons l) : ∀ {n m : Nat} {out : List Pt} {o : Pt}, Way l f out o → l.length + 1 ≤ out.length + n → n ≤ m → hulF l f m out o = hulF l f n out o
  | 0, _, out, o, w, h, _ => by have := way_len w; omega
  | n + 1, 0, out, o, w, h, hm => by omega
  | n + 1, m + 1, out, o, w, h, hm => by
    rw [hulF, hulF]
    by_cases c : nxtP l o = o ∨ nxtP l o = f
    · rw [if_pos c, if_pos c]
    · rw [if_neg c, if_neg c]
      exact hulF_more ho (way_step ho w (fun e => c (.inl e)) (fun e => c (.inr e))) (by simp; omega) (by omega)

/-- A polygon from its corner k on. -/
def rot (l : List Pt) (k : Nat) : List Pt := l.drop k ++ l.take k
theorem rot_len {l : List Pt} {k : Nat} (h : k ≤ l.length) : (rot l k).length = l.length := by unfold rot; simp; omega
theorem rot_vx {l : List Pt} {k i : Nat} (h : k ≤ l.length) (hi : i < l.length) : vx (rot l k) i = vx l ((i + k) % l.length) := by
  unfold rot
  rcases Nat.lt_or_ge (i + k) l.length with h1 | h1
  · rw [vx_app_l (by simp; omega), Nat.mod_eq_of_lt h1]
    unfold vx; rw [List.getD_eq_getElem?_getD, List.getD_eq_getElem?_getD, List.getElem?_drop, Nat.add_comm]
  · have e : i = (l.drop k).length + (i + k - l.length) := by simp; omega
    have e2 : (i + k) % l.length = i + k - l.length := by
      rw [Nat.mod_eq_sub_mod h1, Nat.mod_eq_of_lt (by omega)]
    rw [e2]
    conv => lhs; rw [e, vx_app_r]
    unfold vx; rw [List.getD_eq_getElem?_getD, List.getD_eq_getElem?_getD, List.getElem?_take_of_lt (by omega)]
theorem rot_nx {l : List Pt} {k i : Nat} (h : k ≤ l.length) (hi : i < l.length) : nx (rot l k) i = nx l ((i + k) % l.length) := by
  unfold nx; rw [rot_len h, rot_vx h (mod_lt' hi), Nat.mod_add_mod, Nat.mod_add_mod, Nat.add_right_comm]
theorem mod_cancel {n a b k : Nat} (ha : a < n) (hb : b < n) (hk : k ≤ n) (h : (a + k) % n = (b + k) % n) : a = b := by
  have f : ∀ a, a < n → (a + k) % n = if a + k < n then a + k else a + k - n := fun a ha => by
    split
    · rename_i h; exact Nat.mod_eq_of_lt h
    · rename_i h
      rw [Nat.mod_eq_sub_mod (by omega)]
      by_cases e : a + k - n < n
      · exact Nat.mod_eq_of_lt e
      · omega
  rw [f a ha, f b hb] at h
  split at h <;> split at h <;> omega
theorem rot_val {l : List Pt} {k : Nat} (v : Val l) (h : k ≤ l.length) : Val (rot l k) := by
  have e := rot_len h
  have := v.lo
  refine ⟨by rw [e]; exact v.lo, by rw [e]; exact v.hi, fun i hi => ?_, fun i hi j hj h1 h2 => ?_⟩
  · rw [e] at hi; rw [rot_vx h hi]; exact v.on _ (Nat.mod_lt _ (by omega))
  · rw [e] at hi hj h2
    rw [rot_vx h hi, rot_nx h hi, rot_vx h hj]
    refine v.left _ (Nat.mod_lt _ (by omega)) _ (Nat.mod_lt _ (by omega)) (fun x => h1 (mod_cancel hj hi h x)) fun x => h2 ?_
    have hm : (i + 1) % l.length < l.length := Nat.mod_lt _ (by omega)
    exact mod_cancel hj hm h (by rw [x, Nat.mod_add_mod, Nat.mod_add_mod, Nat.add_right_comm])
end Pln
/- PlnKit: What the walks of layer 7 share: lists of places that lie in memory. -/
namespace Go.Proofs.YtcamncipkofgkaaDoor
open Go.RowKit Pln

theorem lt_of_cell {W : World} {B i : Nat} {v : Value} (h : W.cell? ⟨B, i, none⟩ = some v) : B < W.heap.size := by
  rcases Nat.lt_or_ge B W.heap.size with h' | h'
  · exact h'
  · simp [World.cell?, Array.getElem?_eq_none h'] at h
theorem keptBelow {w w' : World} {b i : Nat} {v : Value} (h : Below w.heap.size w w') (hc : w.cell? ⟨b, i, none⟩ = some v) : w'.cell? ⟨b, i, none⟩ = some v := (h.cell (p := ⟨b, i, none⟩) (lt_of_cell hc)).trans hc
theorem frozenBelow {w w' : World} {b i : Nat} {v : Value} {f : Bool} (h : Below w.heap.size w w') (hc : w.cell? ⟨b, i, none⟩ = some v) (hf : w.frozen? ⟨b, i, none⟩ = f) : w'.frozen? ⟨b, i, none⟩ = f := (h.frozen (p := ⟨b, i, none⟩) (lt_of_cell hc)).trans hf
theorem alloc_below (w : World) (o : Obj) : Below w.heap.size w (w.alloc o) := (Below.refl _ _).alloc (Nat.le_refl _) _
theorem cellA {W : World} {b i : Nat} {v : Value} (o : Obj) (h : W.cell? ⟨b, i, none⟩ = some v) : (W.alloc o).cell? ⟨b, i, none⟩ = some v := keptBelow (alloc_below _ _) h
theorem belowVia {a b c : World} (k : Below b.heap.size b c) (h : Below a.heap.size a b) : Below a.heap.size a c := h.trans (k.mono h.size)
theorem belowStep {a b c : World} (h : Below a.heap.size a b) (k : Below b.heap.size b c) : Below a.heap.size a c := h.trans (k.mono h.size)
theorem below_drewN {B : Nat} {a w : World} (h : Below B a w) (n : Nat) : Below B a (w.drewN n) := ⟨h.os, h.tape, h.output, h.size, h.block⟩
theorem heap_below {w w' : World} {b : Nat} {o : Obj} (h : Below w.heap.size w w') (hb : w.heap[b]? = some o) : w'.heap[b]? = some o := (h.block b (Array.getElem?_eq_some_iff.1 hb).1).trans hb
theorem cell_rowN (w : World) (cs : Array Value) (t : TypeId) (i : Nat) {v : Value} (h : cs[i]? = some v) : (w.alloc (.cells cs t)).cell? ⟨w.heap.size, i, none⟩ = some v := (cell_of_row _ w.heap.size i _ _ _ (heap_alloc_new w _)).trans h
theorem ret_bool {a b : Bool} (h : a = b) : Ending.returned (.bool a) = Ending.returned (.bool b) := by rw [h]
theorem ret_int {a b : Int} (h : a = b) : Ending.returned (.int .i64 a) = Ending.returned (.int .i64 b) := by rw [h]
theorem ret_ii {a b c d : Int} (h1 : a = c) (h2 : b = d) : Ending.returned (.tuple #[.int .i64 a, .int .i64 b]) = Ending.returned (.tuple #[.int .i64 c, .int .i64 d]) := by rw [h1, h2]
def I64 (x : Int) : Prop := -9223372036854775808 ≤ x ∧ x ≤ 9223372036854775807

/-- Places in memory, from an address on. -/
def PtsIn (w : World) (a : Option Addr) (l : List Pt) : Prop := l = [] ∨ ∃ g o, a = some ⟨g, o, none⟩ ∧ ∀ j, j < l.length →
  w.cell? ⟨g, o + j * 2, none⟩ = some (.int .i64 (vx l j).1) ∧ w.cell? ⟨g, o + j * 2 + 1, none⟩ = some (.int .i64 (vx l j).2)
theorem PtsIn.via {w w' : World} {a : Option Addr} {l : List Pt} (h : PtsIn w a l) (hB : Below w.heap.size w w') : PtsIn w' a l := by
  rcases h with h | ⟨g, o, h1, h2⟩
  · exact .inl h
  · exact .inr ⟨g, o, h1, fun j hj => ⟨keptBelow hB (h2 j hj).1, keptBelow hB (h2 j hj).2⟩⟩
theorem PtsIn.get {w : World} {a : Option Addr} {l : List Pt} (h : PtsIn w a l) {k : Nat} (hk : k < l.length) : ∃ g o, a = some ⟨g, o, none⟩ ∧
    w.cell? ⟨g, o + k * 2, none⟩ = some (.int .i64 (vx l k).1) ∧ w.cell? ⟨g, o + k * 2 + 1, none⟩ = some (.int .i64 (vx l k).2) := by
  rcases h with h | ⟨g, o, h1, h2⟩
  · subst h; simp at hk
  · exact ⟨g, o, h1, h2 k hk⟩
def I64P (p : Pt) : Prop := I64 p.1 ∧ I64 p.2
def PtsOk (l : List Pt) : Prop := ∀ r ∈ l, I64P r
/-- A slice of places. -/
structure PtsAt (w : World) (v : Value) (l : List Pt) : Prop where
  at_ : ∃ a c, v = .slice a l.length c ∧ l.length ≤ c ∧ (c : Int) ≤ 9223372036854775807 ∧ PtsIn w a l
  ok : PtsOk l
theorem PtsAt.via {w w' : World} {v : Value} {l : List Pt} (h : PtsAt w v l) (hB : Below w.heap.size w w') : PtsAt w' v l := by
  obtain ⟨⟨a, c, h1, h2, h3, h4⟩, h5⟩ := h
  exact ⟨⟨a, c, h1, h2, h3, h4.via hB⟩, h5⟩
theorem pt_ok {l : List Pt} (h : PtsOk l) {k : Nat} (hk : k < l.length) : I64P (vx l k) := h _ (vx_mem hk)
theorem on_i64 {p : Pt} (h : On p) : I64P p := by
  have := h.x0; have := h.x1; have := h.y0; have := h.y1
  exact ⟨⟨by omega, by omega⟩, by omega, by omega⟩
theorem val_ok {l : List Pt} (v : Val l) : PtsOk l := fun r hr => by obtain ⟨i, hi, rfl⟩ := mem_vx hr; exact on_i64 (v.on i hi)
/-- A place as a value. -/
def pv (p : Pt) : Value := .agg #[.int .i64 p.1, .int .i64 p.2]
/-- An edge as a value. -/
def ev (a b : Pt) : Value := .agg #[.int .i64 a.1, .int .i64 a.2, .int .i64 b.1, .int .i64 b.2]
end Go.Proofs.YtcamncipkofgkaaDoor
/- PlnTurn: The contracts of turn, cross and the functions that are handed on. -/
namespace Go.Proofs.YtcamncipkofgkaaDoor
open Go.RowKit Pln

theorem mul_in {x y m : Int} (h1 : -m ≤ x) (h2 : x ≤ m) (h3 : -m ≤ y) (h4 : y ≤ m) : -(m * m) ≤ x * y ∧ x * y ≤ m * m := by
  have a := Int.mul_nonneg (by omega : 0 ≤ m - x) (by omega : 0 ≤ m + y)
  have b := Int.mul_nonneg (by omega : 0 ≤ m + x) (by omega : 0 ≤ m - y)
  have c := Int.mul_nonneg (by omega : 0 ≤ m - x) (by omega : 0 ≤ m - y)
  have d := Int.mul_nonneg (by omega : 0 ≤ m + x) (by omega : 0 ≤ m + y)
  constructor <;> grind
/-- A place on the map, or on the map of twice the size. -/
structure Sml (p : Pt) : Prop where
  x0 : 0 ≤ p.1
  x1 : p.1 ≤ 81
  y0 : 0 ≤ p.2
  y1 : p.2 ≤ 81
theorem on_sml {p : Pt} (h : On p) : Sml p := ⟨h.x0, by have := h.x1; omega, h.y0, by have := h.y1; omega⟩
theorem turn_in {a b c : Pt} (ha : Sml a) (hb : Sml b) (hc : Sml c) : -13122 ≤ turn a b c ∧ turn a b c ≤ 13122 := by
  have := ha.x0; have := ha.x1; have := ha.y0; have := ha.y1
  have := hb.x0; have := hb.x1; have := hb.y0; have := hb.y1
  have := hc.x0; have := hc.x1; have := hc.y0; have := hc.y1
  unfold turn
  have m1 := mul_in (x := b.1 - a.1) (y := c.2 - a.2) (m := 81) (by omega) (by omega) (by omega) (by omega)
  have m2 := mul_in (x := b.2 - a.2) (y := c.1 - a.1) (m := 81) (by omega) (by omega) (by omega) (by omega)
  omega
set_option maxRecDepth 100000 in
set_option maxHeartbeats 1000000 in
theorem turn_w (a b c : Pt) (ha : Sml a) (hb : Sml b) (hc : Sml c) (w : World) :
    Calls Tryd.prog 97 #[ev a b, pv c] w fun e w' => e = .returned (.int .i64 (turn a b c)) ∧ Below w.heap.size w w' := by
  obtain ⟨a1, a2⟩ := a; obtain ⟨b1, b2⟩ := b; obtain ⟨c1, c2⟩ := c
  obtain ⟨h1, h2, h3, h4⟩ := ha; obtain ⟨k1, k2, k3, k4⟩ := hb; obtain ⟨j1, j2, j3, j4⟩ := hc
  dsimp only at h1 h2 h3 h4 k1 k2 k3 k4 j1 j2 j3 j4
  obtain ⟨m1, m2⟩ := mul_in (x := b1 - a1) (y := c2 - a2) (m := 81) (by omega) (by omega) (by omega) (by omega)
  obtain ⟨m3, m4⟩ := mul_in (x := b2 - a2) (y := c1 - a1) (m := 81) (by omega) (by omega) (by omega) (by omega)
  unfold ev pv turn
  dsimp only
  go_enter Tryd.func97, Tryd.ntmps97
  go_wp2
  go_ret
  exact ⟨rfl, ((Below.refl _ _).alloc (Nat.le_refl _) _).alloc (by simp) _⟩
theorem crs_in {a b : Pt} (ha : Sml a) (hb : Sml b) : -13122 ≤ crs a b ∧ crs a b ≤ 13122 := by
  have := ha.x0; have := ha.x1; have := ha.y0; have := ha.y1
  have := hb.x0; have := hb.x1; have := hb.y0; have := hb.y1
  unfold crs
  have m1 := mul_in (x := a.1) (y := b.2) (m := 81) (by omega) (by omega) (by omega) (by omega)
  have m2 := mul_in (x := a.2) (y := b.1) (m := 81) (by omega) (by omega) (by omega) (by omega)
  omega
set_option maxRecDepth 100000 in
set_option maxHeartbeats 1000000 in
theorem cross_w (a b : Pt) (ha : Sml a) (hb : Sml b) (w : World) :
    Calls Tryd.prog 80 #[ev a b] w fun e w' => e = .returned (.int .i64 (crs a b)) ∧ Below w.heap.size w w' := by
  obtain ⟨a1, a2⟩ := a; obtain ⟨b1, b2⟩ := b
  obtain ⟨h1, h2, h3, h4⟩ := ha; obtain ⟨k1, k2, k3, k4⟩ := hb
  dsimp only at h1 h2 h3 h4 k1 k2 k3 k4
  obtain ⟨m1, m2⟩ := mul_in (x := a1) (y := b2) (m := 81) (by omega) (by omega) (by omega) (by omega)
  obtain ⟨m3, m4⟩ := mul_in (x := a2) (y := b1) (m := 81) (by omega) (by omega) (by omega) (by omega)
  unfold ev crs
  dsimp only
  go_enter Tryd.func80, Tryd.ntmps80
  go_wp2
  go_ret
  exact ⟨rfl, (Below.refl _ _).alloc (Nat.le_refl _) _⟩
theorem kp5 {w0 W W' : World} {b : Nat} {x1 x2 x3 x4 : Value} (h : W.cell? ⟨b, 0, none⟩ = some x1 ∧ W.cell? ⟨b, 1, none⟩ = some x2 ∧ W.cell? ⟨b, 2, none⟩ = some x3 ∧ W.cell? ⟨b, 3, none⟩ = some x4 ∧ Below w0.heap.size w0 W) (hB : Below W.heap.size W W') :
    W'.cell? ⟨b, 0, none⟩ = some x1 ∧ W'.cell? ⟨b, 1, none⟩ = some x2 ∧ W'.cell? ⟨b, 2, none⟩ = some x3 ∧ W'.cell? ⟨b, 3, none⟩ = some x4 ∧ Below w0.heap.size w0 W' :=
  ⟨keptBelow hB h.1, keptBelow hB h.2.1, keptBelow hB h.2.2.1, keptBelow hB h.2.2.2.1, belowStep h.2.2.2.2 hB⟩
set_option maxRecDepth 100000 in
set_option maxHeartbeats 1000000 in
theorem mx_w (a b : Pt) (ha : Sml a) (hb : Sml b) (w : World) :
    Calls Tryd.prog 81 #[ev a b] w fun e w' => e = .returned (.int .i64 ((a.1 + b.1) * crs a b)) ∧ Below w.heap.size w w' := by
  have hc := fun w => cross_w a b ha hb w
  have hi := crs_in ha hb
  obtain ⟨a1, a2⟩ := a; obtain ⟨b1, b2⟩ := b
  obtain ⟨h1, h2, h3, h4⟩ := ha; obtain ⟨k1, k2, k3, k4⟩ := hb
  dsimp only at h1 h2 h3 h4 k1 k2 k3 k4
  unfold ev at hc ⊢
  dsimp only at hc ⊢
  generalize crs (a1, a2) (b1, b2) = t at *
  obtain ⟨t1, t2⟩ := hi
  obtain ⟨m1, m2⟩ := mul_in (x := a1 + b1) (y := t) (m := 13122) (by omega) (by omega) (by omega) (by omega)
  have HC := Lib.hid hc
  clear hc
  have e1 : IntKind.i64.wrap (a1 + b1) = a1 + b1 := IntWalk.i64_in _ (by omega)
  have e2 : IntKind.i64.wrap ((a1 + b1) * t) = (a1 + b1) * t := IntWalk.i64_in _ (by omega)
  go_enter Tryd.func81, Tryd.ntmps81
  go_wp2_with fail
  go_region_held3 (fun w' => w'.cell? ⟨w.heap.size, 0, none⟩ = some (.int .i64 a1) ∧ w'.cell? ⟨w.heap.size, 1, none⟩ = some (.int .i64 a2) ∧ w'.cell? ⟨w.heap.size, 2, none⟩ = some (.int .i64 b1) ∧ w'.cell? ⟨w.heap.size, 3, none⟩ = some (.int .i64 b2) ∧ Below w.heap.size w w')
    (first | exact ⟨cell_rowN w _ _ 0 rfl, cell_rowN w _ _ 1 rfl, cell_rowN w _ _ 2 rfl, cell_rowN w _ _ 3 rfl, (alloc_below w _).drew⟩ | exact kp5 (by assumption) hB3)
    ((go_at_call 80; (with_reducible refine (HC.out _).mono ?_); rintro e u3 ⟨rfl, hB3⟩))
  all_goals
    have HH : Hid (Below w.heap.size w u3) := And.right (And.right (And.right (And.right (by assumption))))
    go_wp2_with fail
    go_ret
    exact ⟨rfl, HH.out⟩
set_option maxRecDepth 100000 in
set_option maxHeartbeats 1000000 in
theorem my_w (a b : Pt) (ha : Sml a) (hb : Sml b) (w : World) :
    Calls Tryd.prog 82 #[ev a b] w fun e w' => e = .returned (.int .i64 ((a.2 + b.2) * crs a b)) ∧ Below w.heap.size w w' := by
  have hc := fun w => cross_w a b ha hb w
  have hi := crs_in ha hb
  obtain ⟨a1, a2⟩ := a; obtain ⟨b1, b2⟩ := b
  obtain ⟨h1, h2, h3, h4⟩ := ha; obtain ⟨k1, k2, k3, k4⟩ := hb
  dsimp only at h1 h2 h3 h4 k1 k2 k3 k4
  unfold ev at hc ⊢
  dsimp only at hc ⊢
  generalize crs (a1, a2) (b1, b2) = t at *
  obtain ⟨t1, t2⟩ := hi
  obtain ⟨m1, m2⟩ := mul_in (x := a2 + b2) (y := t) (m := 13122) (by omega) (by omega) (by omega) (by omega)
  have HC := Lib.hid hc
  clear hc
  have e1 : IntKind.i64.wrap (a2 + b2) = a2 + b2 := IntWalk.i64_in _ (by omega)
  have e2 : IntKind.i64.wrap ((a2 + b2) * t) = (a2 + b2) * t := IntWalk.i64_in _ (by omega)
  go_enter Tryd.func82, Tryd.ntmps82
  go_wp2_with fail
  go_region_held3 (fun w' => w'.cell? ⟨w.heap.size, 0, none⟩ = some (.int .i64 a1) ∧ w'.cell? ⟨w.heap.size, 1, none⟩ = some (.int .i64 a2) ∧ w'.cell? ⟨w.heap.size, 2, none⟩ = some (.int .i64 b1) ∧ w'.cell? ⟨w.heap.size, 3, none⟩ = some (.int .i64 b2) ∧ Below w.heap.size w w')
    (first | exact ⟨cell_rowN w _ _ 0 rfl, cell_rowN w _ _ 1 rfl, cell_rowN w _ _ 2 rfl, cell_rowN w _ _ 3 rfl, (alloc_below w _).drew⟩ | exact kp5 (by assumption) hB3)
    ((go_at_call 80; (with_reducible refine (HC.out _).mono ?_); rintro e u3 ⟨rfl, hB3⟩))
  all_goals
    have HH : Hid (Below w.heap.size w u3) := And.right (And.right (And.right (And.right (by assumption))))
    go_wp2_with fail
    go_ret
    exact ⟨rfl, HH.out⟩
end Go.Proofs.YtcamncipkofgkaaDoor
/- PlnRange: A range over a function that writes blocks of its own between the rounds, and whose rounds may leave the loop: the law, and what its contract says. -/
namespace Go.Proofs.YtcamncipkofgkaaDoor
open Go.RowKit

/-- Whatever lay from block B on lies as it lay. -/
structure Above (B : Nat) (W W' : World) : Prop where
  size : W.heap.size ≤ W'.heap.size
  same : ∀ k, B ≤ k → k < W.heap.size → W'.heap[k]? = W.heap[k]?
theorem Above.refl (B : Nat) (W : World) : Above B W W := ⟨Nat.le_refl _, fun _ _ _ => rfl⟩
theorem Above.trans {B : Nat} {X Y Z : World} (h : Above B X Y) (k : Above B Y Z) : Above B X Z :=
  ⟨Nat.le_trans h.size k.size, fun i hB hi => (k.same i hB (Nat.lt_of_lt_of_le hi h.size)).trans (h.same i hB hi)⟩
theorem Above.of_below {B : Nat} {W W' : World} (h : Below W.heap.size W W') : Above B W W' := ⟨h.size, fun k _ hk => h.block k hk⟩
theorem Above.setCell {B : Nat} (W : World) (b i : Nat) (v : Value) (hb : b < B) : Above B W (W.setCell ⟨b, i, none⟩ v) :=
  ⟨by simp, fun k hk _ => heap_setCell_other W ⟨b, i, none⟩ k v (by simp; omega)⟩
theorem Above.mono {B B' : Nat} {W W' : World} (h : Above B W W') (hB : B ≤ B') : Above B' W W' := ⟨h.size, fun k hk hl => h.same k (by omega) hl⟩

variable {F : Fence} {n : Nat} {P : Program}

/-- What an iterator yields, whoever hears: m times, what stands at the number of the round. A round may leave the loop. The iterator may write blocks that it has made itself. -/
def SeqYields (F : Fence) (n : Nat) (P : Program) (g : Nat) (lb : Array Value) (enc : Nat → Array Value) (m : Nat) (R : World → Prop) : Prop :=
  ∀ (l : Nat) (J Jx : Nat → World → Prop) (W : World),
    (∀ k A A', J k A → Below W.heap.size A A' → J k A') →
    (∀ k A A', Jx k A → Below W.heap.size A A' → Jx k A') →
    (∀ k A, J k A → R A) →
    (∀ k A, k < m → J k A → W.heap.size ≤ A.heap.size → YieldAt F (n - 1) P l (enc k) A fun e A' => (e = .returned (.bool true) ∧ J (k + 1) A' ∧ Above W.heap.size A A') ∨ (e = .returned (.bool false) ∧ Jx k A')) →
    J 0 W →
    CallsIn F n P g (#[.func (.yield l) #[] #[]] ++ lb) W fun e W' => (∃ v, e = .returned v) ∧ (J m W' ∨ ∃ k, k < m ∧ Jx k W')

/-- How the body of a round may be left. -/
def yldPost (B : Nat) (I : Nat → World → Prop) (Ix : Code → Nat → World → Prop) (k : Nat) (W : World) : Exit → Act → World → Prop
  | .normal, _, W' => Above B W W' ∧ I (k + 1) W'
  | .ret, _, W' => Above B W W' ∧ Ix .ret k W'
  | .exit id, _, W' => Above B W W' ∧ Ix (.exit id) k W'
  | .goto t, _, W' => Above B W W' ∧ Ix (.goto t) k W'
  | .panic _, _, _ => False
  | .outgrown, _, _ => False

theorem wpIn_rangeFunc_yields {g : Operand} {ps : Array Tmp} {assign body : Code} {Q : Exit → Act → World → Prop} {a : Act} {w : World}
    (hro : F.round = none) (h1 : 1 ≤ n) {gf : Nat} {lb : Array Value} (hg : a.eval g = .func (.func gf) #[] lb) (hFg : F.fn gf) (eg : ∀ args w, (callFunc gf args).run P w = .ok (.enter gf args) w)
    {enc : Nat → Array Value} {m : Nat} {R : World → Prop} (hseq : SeqYields F (n - 1) P gf lb enc m R) (hps : ∀ k, (enc k).size = ps.size)
    (I : Nat → World → Prop) (Ix : Code → Nat → World → Prop) (hI : ∀ k A A', I k A → Below w.heap.size A A' → I k A') (hIx : ∀ c k A A', Ix c k A → Below w.heap.size A A' → Ix c k A') (hR : ∀ k A, I k A → R A) (h0 : I 0 w)
    (Ax : Nat → Act → World → Prop) (hAx : ∀ k a' A A', Ax k a' A → (∀ j, j ≠ w.heap.size + 1 → A'.heap[j]? = A.heap[j]?) → Ax k a' A')
    (hassign : ∀ (l k : Nat) (W : World), k < m → w.heap.size + 1 < W.heap.size → I k W →
      assign.wpIn (F.inRound l) (n - 1 - 1) P (Exit.then (fun a' W' => Above w.heap.size W W' ∧ I k W' ∧ Ax k a' W') (fun _ _ _ => False)) { tmps := (ps.zip (enc k)).foldl (fun t (p, v) => t.setIfInBounds p v) a.tmps, defers := [] } W)
    (hbody : ∀ (l k : Nat) (a' : Act) (W : World), k < m → w.heap.size + 1 < W.heap.size → I k W → Ax k a' W → body.wpIn (F.inRound l) (n - 1 - 1) P (yldPost w.heap.size I Ix k W) a' W)
    (hdone : ∀ (D : Nat) (W : World), w.heap.size ≤ D → I m W → W.heap[D]? = some (.deferred (some [])) → Q .normal { a with defers := { target := .collected D, args := #[] } :: a.defers } W)
    (hstop : ∀ (D : Nat) (c : Code) (k : Nat) (W : World), w.heap.size ≤ D → k < m → Ix c k W → W.heap[D]? = some (.deferred (some [])) → c.wpIn F n P Q { a with defers := { target := .collected D, args := #[] } :: a.defers } W) :
    (Code.rangeFunc g ps assign body).wpIn F n P Q a w := by
  refine wpIn_rangeFunc ?_
  intro fn hfn
  rw [hro]
  obtain ⟨rec, hrec⟩ : ∃ rec : LoopState → Option Code → Loop, rec = fun st pe => { state := st, pending := pe, fn, tmps := a.tmps, params := ps, assign, body, defers := w.heap.size } := ⟨_, rfl⟩
  obtain ⟨W1, hW1⟩ : ∃ W1, (w.alloc (.deferred (some []))).alloc (.loop (rec .ready none)) = W1 := ⟨_, rfl⟩
  have hsz : W1.heap.size = w.heap.size + 1 + 1 := by rw [← hW1, World.size_alloc, World.size_alloc]
  have hL1 : W1.heap[w.heap.size + 1]? = some (.loop (rec .ready none)) := by
    rw [← hW1]; have := World.alloc_heap_new (w.alloc (.deferred (some []))) (.loop (rec .ready none)); rwa [World.size_alloc] at this
  have hK1 : W1.heap[w.heap.size]? = some (.deferred (some [])) := by
    rw [← hW1]; exact (Below.heap_alloc _ _ _ (by simp)).trans (World.alloc_heap_new w _)
  have hI1 : I 0 W1 := by
    rw [← hW1]
    exact hI _ _ _ h0 (((Below.refl _ w).alloc (Nat.le_refl _) _).alloc (by simp) _)
  have put : ∀ (W : World) (o o' : Obj), W.heap[w.heap.size + 1]? = some o → Below w.heap.size W (W.putObj (w.heap.size + 1) o') := fun W o o' h => (Below.refl _ W).grown (grownBy_putObj' W (w.heap.size + 1) o') (by have := (Array.getElem?_eq_some_iff.1 h).1; omega) (fun k e => by cases e; omega)
  have down : ∀ {A A' : World}, Below W1.heap.size A A' → Below w.heap.size A A' := fun hb => by rw [hsz] at hb; exact ⟨hb.os, hb.tape, hb.output, hb.size, fun k hk => hb.block k (by omega)⟩
  refine ⟨w.heap.size + 1, [{ target := .collected w.heap.size, args := #[] }], W1, { target := .fn (.func gf) lb, args := #[.func (.yield (w.heap.size + 1)) #[] #[]] }, W1, gf,
    #[.func (.yield (w.heap.size + 1)) #[] #[]] ++ lb, W1, ?_, ?_, ?_, ?_, fun _ => h1, ?_⟩
  · rw [← hW1, hrec]; exact run_enterLoop_outer _ _ _ _ _
  · simp only [resolve, hg]
    simp [go_sem]
  · intro f' hf'; simp [Target.leads] at hf'; subst hf'; exact hFg
  · simp [invoke, go_sem, eg]
  · refine (hseq (w.heap.size + 1)
      (fun k W => w.heap.size ≤ W.heap.size ∧ I k W ∧ W.heap[w.heap.size + 1]? = some (.loop (rec .ready none)) ∧ W.heap[w.heap.size]? = some (.deferred (some [])))
      (fun k W => ∃ c, Ix c k W ∧ W.heap[w.heap.size + 1]? = some (.loop (rec .done (some c))) ∧ W.heap[w.heap.size]? = some (.deferred (some [])))
      W1
      (fun k A A' hs hb => ⟨Nat.le_trans hs.1 hb.size, hI _ _ _ hs.2.1 (down hb), (hb.block _ (by omega)).trans hs.2.2.1, (hb.block _ (by omega)).trans hs.2.2.2⟩)
      (fun k A A' hs hb => by obtain ⟨c, hc, hl, hk⟩ := hs; exact ⟨c, hIx _ _ _ _ hc (down hb), (hb.block _ (by omega)).trans hl, (hb.block _ (by omega)).trans hk⟩)
      (fun k A hs => hR _ _ hs.2.1) ?_ ⟨by omega, hI1, hL1, hK1⟩).mono ?_
    · rintro k W hkm ⟨hle, hi, hl, hk⟩ _
      have hlt : w.heap.size + 1 < W.heap.size := (Array.getElem?_eq_some_iff.1 hl).1
      have hy := run_yield (P := P) (args := enc k) hl (by rw [hrec]; exact hps k)
      rw [hrec] at hy
      refine ⟨fn, _, assign, body, hy, roundIn_of_wpIn hfn (wpIn_mono (hassign _ k W hkm hlt hi) ?_)⟩
      clear hy
      rintro e a' Wa hp
      cases e with
      | ret => exact hp.elim
      | exit id => exact hp.elim
      | goto t => exact hp.elim
      | panic ch => exact hp.elim
      | outgrown => exact hp.elim
      | normal =>
      obtain ⟨haba, hia, hax⟩ := hp
      have hla := (haba.same (w.heap.size + 1) (by omega) hlt).trans hl
      have hka := (haba.same w.heap.size (Nat.le_refl _) (by omega)).trans hk
      have hlta : w.heap.size + 1 < Wa.heap.size := (Array.getElem?_eq_some_iff.1 hla).1
      refine ⟨_, run_beginRound hla (by rw [hrec]), ?_⟩
      have hl2 : (Wa.putObj (w.heap.size + 1) (.loop { rec .ready none with state := .busy })).heap[w.heap.size + 1]? = some (.loop { rec .ready none with state := .busy }) := World.putObj_heap_same hlta
      have hk2 : (Wa.putObj (w.heap.size + 1) (.loop { rec .ready none with state := .busy })).heap[w.heap.size]? = some (.deferred (some [])) := (World.putObj_heap_other (by omega)).trans hka
      have hsz2 : (Wa.putObj (w.heap.size + 1) (.loop { rec .ready none with state := .busy })).heap.size = Wa.heap.size := by simp
      refine wpIn_mono (hbody _ k a' _ hkm (by rw [hsz2]; omega) (hI _ _ _ hia (put _ _ _ hla)) (hAx _ _ _ _ hax (fun j hj => World.putObj_heap_other hj))) ?_
      have fin : ∀ (jump : Option Code) (W3 : World), Above w.heap.size (Wa.putObj (w.heap.size + 1) (.loop { rec .ready none with state := .busy })) W3 →
          (Instr.endRound (w.heap.size + 1) jump).run P W3 = .ok (.bool jump.isNone) (W3.putObj (w.heap.size + 1) (.loop (rec (if jump.isNone then .ready else .done) jump))) ∧
          Below w.heap.size W3 (W3.putObj (w.heap.size + 1) (.loop (rec (if jump.isNone then .ready else .done) jump))) ∧
          (W3.putObj (w.heap.size + 1) (.loop (rec (if jump.isNone then .ready else .done) jump))).heap[w.heap.size + 1]? = some (.loop (rec (if jump.isNone then .ready else .done) jump)) ∧
          (W3.putObj (w.heap.size + 1) (.loop (rec (if jump.isNone then .ready else .done) jump))).heap[w.heap.size]? = some (.deferred (some [])) := fun jump W3 hab => by
        have hl3 := (hab.same (w.heap.size + 1) (by omega) (by rw [hsz2]; exact hlta)).trans hl2
        have hk3 := (hab.same w.heap.size (Nat.le_refl _) (by rw [hsz2]; omega)).trans hk2
        have := run_endRound (P := P) jump hl3
        rw [hrec] at this ⊢
        exact ⟨this, put _ _ _ hl3, World.putObj_heap_same (Array.getElem?_eq_some_iff.1 hl3).1, (World.putObj_heap_other (by omega)).trans hk3⟩
      rintro e a3 W3 hp
      cases e with
      | normal =>
        obtain ⟨hab, hi3⟩ := hp
        obtain ⟨hr, hb3, hl4, hk4⟩ := fin none W3 hab
        have hs3 := hab.size
        rw [hsz2] at hs3
        refine ⟨_, _, hr, .inl ⟨rfl, ⟨?_, hI _ _ _ hi3 hb3, hl4, hk4⟩, ⟨?_, fun j hj hlj => ?_⟩⟩⟩
        · simp; omega
        · have := haba.size; simp; omega
        · rw [World.putObj_heap_other (by omega), hab.same j (by omega) (by rw [hsz2]; exact Nat.lt_of_lt_of_le hlj haba.size), World.putObj_heap_other (by omega), haba.same j (by omega) hlj]
      | ret =>
        obtain ⟨hab, hi3⟩ := hp
        obtain ⟨hr, hb3, hl4, hk4⟩ := fin (some .ret) W3 hab
        exact ⟨_, _, hr, .inr ⟨rfl, .ret, hIx _ _ _ _ hi3 hb3, hl4, hk4⟩⟩
      | exit id =>
        obtain ⟨hab, hi3⟩ := hp
        obtain ⟨hr, hb3, hl4, hk4⟩ := fin (some (.exit id)) W3 hab
        exact ⟨_, _, hr, .inr ⟨rfl, .exit id, hIx _ _ _ _ hi3 hb3, hl4, hk4⟩⟩
      | goto t =>
        obtain ⟨hab, hi3⟩ := hp
        obtain ⟨hr, hb3, hl4, hk4⟩ := fin (some (.goto t)) W3 hab
        exact ⟨_, _, hr, .inr ⟨rfl, .goto t, hIx _ _ _ _ hi3 hb3, hl4, hk4⟩⟩
      | panic ch => exact hp.elim
      | outgrown => exact hp.elim
    · rintro e W2 ⟨⟨v, rfl⟩, (⟨hle, hi, hl, hk⟩ | ⟨k, hkm, c, hi, hl, hk⟩)⟩
      · exact ⟨none, _, by have := run_endLoop (P := P) hl (by rw [hrec]; simp); rw [hrec] at this; exact this, hdone _ _ (Nat.le_refl _) (hI _ _ _ hi (put _ _ _ hl)) ((World.putObj_heap_other (by omega)).trans hk)⟩
      · exact ⟨some c, _, by have := run_endLoop (P := P) hl (by rw [hrec]; simp); rw [hrec] at this; exact this, hstop _ c k _ (Nat.le_refl _) hkm (hIx _ _ _ _ hi (put _ _ _ hl)) ((World.putObj_heap_other (by omega)).trans hk)⟩
end Go.Proofs.YtcamncipkofgkaaDoor
/- PlnReg: A region that draws its order, inside a fence and inside a round: what only reads what stands throughout may be taken first. Of no program. -/
namespace Pln
open Go

section
variable {F : Fence} {n : Nat} {P : Program} {ops : Array Oper} {Q : Exit → Act → World → Prop} {md : Region.Mode} {S : World → Prop}

/-- No operation puts a call off. -/
def noDefer (ops : Array Oper) : Bool := ops.all fun o => match o.op with | .defer .. => false | _ => true
theorem noDefer_spec (h : noDefer ops = true) (j : Nat) (o : Oper) (ho : ops[j]? = some o) (c : Call) : o.op ≠ .defer c := by
  intro heq
  have := Array.all_eq_true_iff_forall_mem.1 h o (Array.mem_of_getElem? ho)
  simp [heq] at this
/-- In state a, in every world that meets S, the operation leaves v in its temporary and does nothing else; nor is it about to call. -/
def YldIn (P : Program) (ops : Array Oper) (S : World → Prop) (o : Oper) (v : Value) (a : Act) : Prop := YieldsIf P ops S o v a ∧ ∀ w, o.about P w a.eval = none
theorem YldIn.of_same {o : Oper} {v : Value} {a a' : Act} (hy : YldIn P ops S o v a) (he : execOp a'.eval o = execOp a.eval o)
    (hw : Region.wanted o (yielded ops a'.tmps) = Region.wanted o (yielded ops a.tmps)) (hb : ∀ w, o.about P w a'.eval = o.about P w a.eval) : YldIn P ops S o v a' :=
  ⟨hy.1.of_same he hw, fun w => by rw [hb w]; exact hy.2 w⟩
theorem YldIn.wpOpIn {i : Nat} {o : Oper} {v : Value} {a : Act} (hnd : noDefer ops = true) (hi : ops[i]? = some o) (hy : YldIn P ops S o v a)
    {K : Act → World → Prop} {w : World} (hS : S w) (h : K (a.put o.dst v) w) : wpOpIn F n P ops Q i K a w := by
  unfold Go.wpOpIn
  simp only [hi]
  have hab : ∀ f, o.about P w a.eval = some f → F.fn f := fun f hf => by rw [hy.2 w] at hf; cases hf
  rcases hy.1 with ⟨hw, hv⟩ | ⟨hw, rfl⟩
  · simp only [hw, if_true, Oper.wpIn, Oper.semAt_plain F _ _ (noDefer_spec hnd i o hi), hv w hS, Oper.uponIn]; exact ⟨hab, h⟩
  · simp only [hw, Bool.false_eq_true, if_false]; exact ⟨hab, h⟩
theorem wpOpIn_putS {j : Nat} {oi oj : Oper} {v : Value} (hnd : noDefer ops = true) (hj : ops[j]? = some oj) (hap : oi.apart ops oj = true)
    (hsi : ∀ cs b, oi.op ≠ .select cs b) (hsj : ∀ cs b, oj.op ≠ .select cs b)
    (hQ : ∀ c a w, Q (.panic c) (a.put oi.dst v) w → Q (.panic c) a w) {K : Act → World → Prop} {a : Act} {w : World}
    (hy : YldIn P ops S oi v a) (h : wpOpIn F n P ops Q j K (a.put oi.dst v) w) :
    wpOpIn F n P ops Q j (fun a' w' => YldIn P ops S oi v a' ∧ K (a'.put oi.dst v) w') a w := by
  obtain ⟨h1, h2, h3⟩ := Oper.apart_spec hap
  have hnd' := noDefer_spec hnd j oj hj
  have keep : ∀ (a : Act), YldIn P ops S oi v a → ∀ u, YldIn P ops S oi v (a.put oj.dst u) := fun a hy u =>
    hy.of_same (execOp_put oi hsi a oj.dst u h3) (wanted_put oi a oj.dst u h3) (fun w => about_put oi w a oj.dst u h3)
  unfold wpOpIn at *
  simp only [hj] at *
  rw [wanted_put oj a oi.dst v h1, about_put oj w a oi.dst v h1] at h
  split
  · rename_i hw
    simp only [hw, if_true] at h
    unfold Oper.wpIn at *
    rw [about_put oj w a oi.dst v h1] at h
    refine ⟨h.1, ?_⟩
    have h := h.2
    rw [Oper.semAt_plain F _ _ hnd', execOp_put oj hsj a oi.dst v h1] at h
    rw [Oper.semAt_plain F _ _ hnd']
    generalize (execOp a.eval oj).run P w = r at *
    cases r with
    | ok x w' =>
      cases x <;> simp only [Oper.uponIn] at h ⊢
      case value u => exact ⟨keep a hy u, by rw [← Act.put_comm a v u h2]; exact h⟩
      case skip => exact ⟨keep a hy _, by rw [← Act.put_comm a v undef h2]; exact h⟩
      case defer d =>
        refine ⟨keep { a with defers := d :: a.defers } (YldIn.of_same (a := a) hy rfl rfl (fun _ => rfl)) _, ?_⟩
        rw [← Act.put_comm _ v undef h2, ← Act.put_defers]
        exact h
      case enter f args =>
        refine ⟨h.1, CallsIn.mono h.2 fun e w'' he => ?_⟩
        cases e with
        | returned u => exact ⟨keep a hy u, by rw [← Act.put_comm a v u h2]; exact he⟩
        | panicked c => exact hQ _ _ _ he
        | outgrown => exact he
      case row row args => exact ⟨h.1, RowsIn.mono h.2 fun u w'' he => ⟨keep a hy u, by rw [← Act.put_comm a v u h2]; exact he⟩⟩
      case round l f tmps assign body =>
        refine ⟨h.1, RoundIn.mono h.2 fun e w'' he => ?_⟩
        cases e with
        | returned u => exact ⟨keep a hy u, by rw [← Act.put_comm a v u h2]; exact he⟩
        | panicked c => exact hQ _ _ _ he
        | outgrown => exact he
    | halt x w' =>
      cases x <;> simp only [Oper.uponIn] at h ⊢
      case panic u => exact hQ _ _ _ h
  · rename_i hw
    simp only [hw] at h
    exact ⟨h.1, keep a hy _, by rw [← Act.put_comm a v undef h2]; exact h.2⟩

/-- The operations that wait for number i, or for one that does. -/
def waits (md : Region.Mode) (ops : Array Oper) (i : Nat) : List Nat :=
  (List.range ops.size).foldl (fun T j => if ((ops[j]?).map fun o => o.after.any fun e => Region.binds md e && (e.on == i || T.contains e.on)).getD false then j :: T else T) []
def closedT (md : Region.Mode) (ops : Array Oper) (i : Nat) (T : List Nat) : Bool :=
  T.all fun j => ((ops[j]?).map fun o => o.after.any fun e => Region.binds md e && (e.on == i || T.contains e.on)).getD false
/-- Number k waits for number i. -/
def okT (md : Region.Mode) (ops : Array Oper) (listed : Array Bool) (i k : Nat) : Bool :=
  closedT md ops i (waits md ops i) && (waits md ops i).contains k && ((waits md ops i).all fun j => !(listed.getD j true)) && !((waits md ops i).contains i)
/-- Whatever order is picked: S holds behind each operation as long as number k has not come up. -/
def wpT (F : Fence) (n : Nat) (P : Program) (md : Region.Mode) (ops : Array Oper) (Q : Exit → Act → World → Prop) (S : World → Prop) (k : Nat) : Nat → Array Bool → Act → World → Prop
  | 0, listed, a, w => Region.ready md ops listed = [] ∧ Q .normal a w
  | fuel + 1, listed, a, w =>
    (Region.ready md ops listed = [] → Q .normal a w) ∧
    ∀ i ∈ Region.ready md ops listed, wpOpIn F n P ops Q i (fun a' w' => ((listed.setIfInBounds i true).getD k true = false → S w') ∧ wpT F n P md ops Q S k fuel (listed.setIfInBounds i true) a' w') a w
theorem wpAnyIn_of_T {k : Nat} : ∀ (fuel : Nat) (listed : Array Bool) (a : Act) (w : World), wpT F n P md ops Q S k fuel listed a w → wpAnyIn F n P md ops Q fuel listed a w
  | 0, _, _, _, h => h
  | fuel + 1, _, _, _, h => ⟨h.1, fun i hi => wpOpIn_mono (fun a' w' h' => wpAnyIn_of_T fuel _ a' w' h'.2) (h.2 i hi)⟩
theorem wpT_first {k i : Nat} {oi : Oper} {v : Value} {T : List Nat} (hnd : noDefer ops = true) (hi : ops[i]? = some oi) (hT : closedT md ops i T = true) (hkT : k ∈ T) (hiT : i ∉ T)
    (hsel : ∀ (j : Nat) (o : Oper) cs b, ops[j]? = some o → o.op ≠ .select cs b) (hQ : ∀ c a w, Q (.panic c) (a.put oi.dst v) w → Q (.panic c) a w) :
    ∀ (fuel : Nat) (listed : Array Bool) (a : Act) (w : World),
      (∀ j oj, ops[j]? = some oj → j ≠ i → listed.getD j true = false → (∀ e ∈ oj.after, Region.binds md e = true → e.on ≠ i) → oi.apart ops oj = true) →
      i ∈ Region.ready md ops listed → (∀ j ∈ T, listed.getD j true = false) → YldIn P ops S oi v a → S w →
      wpT F n P md ops Q S k fuel (listed.setIfInBounds i true) (a.put oi.dst v) w → wpT F n P md ops Q S k (fuel + 1) listed a w := by
  intro fuel
  induction fuel with
  | zero =>
    intro listed a w _ hr _ hy hS H
    refine ⟨fun h => (by rw [h] at hr; cases hr), fun j hj => ?_⟩
    by_cases hji : j = i
    · subst hji; exact hy.wpOpIn hnd hi hS ⟨fun _ => hS, H⟩
    · have h := ready_mono hj hji
      rw [H.1] at h
      cases h
  | succ fuel ih =>
    intro listed a w hfree hr hun hy hS H
    refine ⟨fun h => (by rw [h] at hr; cases hr), fun j hj => ?_⟩
    by_cases hji : j = i
    · subst hji; exact hy.wpOpIn hnd hi hS ⟨fun _ => hS, H⟩
    · have huni := (mem_ready.1 hr).1
      obtain ⟨hjun, oj, hoj, hall⟩ := mem_ready.1 hj
      have off : ∀ x, listed.getD x true = false → listed.getD x false = true → False := fun x h1 h2 => by
        rcases Nat.lt_or_ge x listed.size with h' | h'
        · simp [h'] at h1 h2; rw [h1] at h2; cases h2
        · simp [Array.getElem?_eq_none h'] at h2
      have hnot : ∀ e ∈ oj.after, Region.binds md e = true → e.on ≠ i := fun e he hb heq => by
        have h1 := hall e he hb
        rw [heq] at h1
        exact off i huni h1
      have hjT : j ∉ T := fun hjm => by
        have h1 := List.all_eq_true.1 hT j hjm
        rw [hoj] at h1
        simp only [Option.map_some, Option.getD_some] at h1
        rw [Array.any_eq_true] at h1
        obtain ⟨x, hx, h⟩ := h1
        simp only [Bool.and_eq_true, Bool.or_eq_true, beq_iff_eq, List.contains_iff_mem] at h
        have h2 := hall _ (Array.getElem_mem hx) h.1
        rcases h.2 with h3 | h3
        · rw [h3] at h2; exact off i huni h2
        · exact off _ (hun _ h3) h2
      have hjk : j ≠ k := fun e => hjT (by rw [e]; exact hkT)
      have hik : i ≠ k := fun e => hiT (by rw [e]; exact hkT)
      have h2 := wpOpIn_putS hnd hoj (hfree j oj hoj hji hjun hnot) (fun cs b => hsel i oi cs b hi) (fun cs b => hsel j oj cs b hoj) hQ hy (H.2 j (ready_mono hj hji))
      have hfree' : ∀ m om, ops[m]? = some om → m ≠ i → (listed.setIfInBounds j true).getD m true = false →
          (∀ e ∈ om.after, Region.binds md e = true → e.on ≠ i) → oi.apart ops om = true := fun m om hm hmi hu hno => by
        refine hfree m om hm hmi ?_ hno
        by_cases hjm : j = m
        · subst hjm; exact hjun
        · rw [getD_set_ne true hjm] at hu; exact hu
      have hun' : ∀ m ∈ T, (listed.setIfInBounds j true).getD m true = false := fun m hm => by
        rw [getD_set_ne true (fun e => hjT (by rw [e]; exact hm))]; exact hun m hm
      have hkl3 : ((listed.setIfInBounds i true).setIfInBounds j true).getD k true = false := by rw [getD_set_ne true hjk, getD_set_ne true hik]; exact hun k hkT
      refine wpOpIn_mono (fun a' w' h3 => ⟨fun _ => h3.2.1 hkl3, ih (listed.setIfInBounds j true) a' w' hfree' (ready_mono hr (Ne.symm hji)) hun' h3.1 (h3.2.1 hkl3) ?_⟩) h2
      rw [Array.setIfInBounds_comm _ _ hji]
      exact h3.2.2
/-- The beginning. -/
theorem wpIn_region_T {id : Nat} {a : Act} {w : World} (S : World → Prop) (k : Nat) (hm : P.follows .mixedOrders = true)
    (h : wpT F n P .any ops Q S k ops.size (Array.replicate ops.size false) a w.drew) : (Code.region id ops true).wpIn F n P Q a w :=
  wpIn_region_any hm (wpAnyIn_of_T _ _ _ _ h)
/-- Take number i first. -/
theorem wpT_take (i : Nat) {k : Nat} {oi : Oper} {v : Value} {d : Option Tmp} {fuel : Nat} {listed : Array Bool} {a : Act} {w : World} (hS : S w)
    (hi : ops[i]? = some oi) (hd : oi.dst = d) (hnd : noDefer ops = true) (hT : okT md ops listed i k = true)
    (hs : Region.noSelect ops = true) (hf : Region.free md ops listed i = true) (hr : (Region.ready md ops listed).contains i = true)
    (hQ : ∀ c a w, Q (.panic c) (a.put d v) w → Q (.panic c) a w) (hy : YldIn P ops S oi v a)
    (h : wpT F n P md ops Q S k fuel (listed.setIfInBounds i true) (a.put d v) w) : wpT F n P md ops Q S k (fuel + 1) listed a w := by
  subst hd
  unfold okT at hT
  simp only [Bool.and_eq_true, List.contains_iff_mem, List.all_eq_true, Bool.not_eq_true', ← Bool.not_eq_true] at hT
  exact wpT_first hnd hi hT.1.1.1 hT.1.1.2 hT.2 (Region.noSelect_spec hs) hQ fuel listed a w (Region.free_spec hi hf) (by simpa using hr) (fun j hj => by simpa using hT.1.2 j hj) hy hS h
/-- The same, with what is to be computed filled in. -/
theorem wpT_tk (i : Nat) (d : Tmp) {k : Nat} {oi : Oper} {v : Value} {fuel : Nat} {listed : Array Bool} {a : Act} {w : World} (hS : S w)
    (hi : ops[i]? = some oi) (hd : oi.dst = some d) (hw : Region.wanted oi (yielded ops a.tmps) = true) (hnd : noDefer ops = true := by kernel_rfl) (hT : okT md ops listed i k = true := by kernel_rfl)
    (hs : Region.noSelect ops = true := by kernel_rfl) (hf : Region.free md ops listed i = true := by kernel_rfl) (hr : (Region.ready md ops listed).contains i = true := by kernel_rfl)
    (hQ : ∀ c a w, Q (.panic c) (a.put (some d) v) w → Q (.panic c) a w := by exact fun _ _ _ h => h) (hab : ∀ w, oi.about P w a.eval = none := by exact fun _ => rfl) (hy : ∀ w, S w → (execOp a.eval oi).run P w = .ok (.value v) w)
    (h : wpT F n P md ops Q S k fuel (listed.setIfInBounds i true) (a.put (some d) v) w) : wpT F n P md ops Q S k (fuel + 1) listed a w :=
  wpT_take i hS hi hd hnd hT hs hf hr hQ ⟨.inl ⟨hw, hy⟩, hab⟩ h
/-- One operation alone may come up. -/
theorem wpT_one (i : Nat) {k : Nat} {oi : Oper} {fuel : Nat} {listed : Array Bool} {a : Act} {w : World} (hi : ops[i]? = some oi) (hg : oi.guard = none) (hr : Region.ready md ops listed = [i])
    (h : oi.wpIn F n P a w (fun a' w' => ((listed.setIfInBounds i true).getD k true = false → S w') ∧ wpT F n P md ops Q S k fuel (listed.setIfInBounds i true) a' w') Q) : wpT F n P md ops Q S k (fuel + 1) listed a w := by
  refine ⟨fun h0 => (by rw [hr] at h0; cases h0), fun j hj => ?_⟩
  rw [hr] at hj
  obtain rfl : j = i := by simpa using hj
  unfold wpOpIn
  simp only [hi]
  rw [if_pos (by simp [Region.wanted, hg])]
  exact h
theorem wpT_done {k : Nat} {listed : Array Bool} {a : Act} {w : World} (hr : Region.ready md ops listed = []) (h : Q .normal a w) : ∀ fuel, wpT F n P md ops Q S k fuel listed a w
  | 0 => ⟨hr, h⟩
  | _ + 1 => ⟨fun _ => h, by rw [hr]; simp⟩
end
end Pln
/- PlnEdges: The contract of the function that edges returns: what it yields. -/
namespace Go.Proofs.YtcamncipkofgkaaDoor
open Go.RowKit Go.Shelf Pln
attribute [local go_sem] Oper.semAt_some

theorem edges_w (a : Option Addr) (m c : Nat) (w : World) :
    Calls Tryd.prog 74 #[.slice a m c] w fun e w' => e = .returned (.func (.func 100) #[] #[.pointer (some ⟨w.heap.size, 0, none⟩)]) ∧ w' = w.alloc (.cells #[.slice a m c] 25) := by
  go_enter Tryd.func74, Tryd.ntmps74
  go_wp2
  go_ret
  exact ⟨rfl, rfl⟩

/-- The list that the edges are made of. -/
def Held (Bx : Nat) (v : Value) (l : List Pt) (A : World) : Prop := A.cell? ⟨Bx, 0, none⟩ = some v ∧ PtsAt A v l
theorem Held.via {Bx : Nat} {v : Value} {l : List Pt} {A A' : World} (h : Held Bx v l A) (hB : Below A.heap.size A A') : Held Bx v l A' := ⟨keptBelow hB h.1, h.2.via hB⟩
def encE (l : List Pt) (k : Nat) : Array Value := #[.int .i64 k, ev (vx l k) (nx l k)]

set_option maxRecDepth 100000 in
set_option maxHeartbeats 4000000 in
theorem edges1_yields (n : Nat) (Bx : Nat) (v : Value) (l : List Pt) (hl : l.length ≤ 100) :
    SeqYields Fence.wide n Tryd.prog 100 #[.pointer (some ⟨Bx, 0, none⟩)] (encE l) l.length (Held Bx v l) := by
  intro L J Jx W hJ hJx hR hY h0
  refine callsIn_of_wp Tryd.func100 rfl trivial ?_ rfl
  simp only [Tryd.ntmps100, List.size_toArray, List.length_cons, List.length_nil, Nat.reduceAdd, Nat.reduceSub, Array.replicate_succ, Array.replicate_zero, List.push_toArray, List.append_toArray, List.nil_append, List.cons_append]
  obtain ⟨hp1, ⟨⟨a, c, rfl, hc, hcb, hin⟩, hok⟩⟩ := hR _ _ h0
  clear hin hok hc
  have HJ := Lib.hid hJ
  have HX := Lib.hid hJx
  have HR := Lib.hid hR
  have HY := Lib.hid hY
  have H0 := Lib.hid h0
  obtain ⟨m, hm⟩ : ∃ m, m = l.length := ⟨_, rfl⟩
  rw [← hm] at hp1 hl ⊢
  have HM := Lib.hid hm
  have hmb : (m : Int) ≤ 100 := by omega
  clear hJ hJx hR hY h0 hm hl hcb
  gi_wp2
  clear hp1
  gi_loopw [7] (fun i wr => ∃ k : Nat, k ≤ m ∧ i = .int .i64 k ∧ J k wr ∧ W.heap.size ≤ wr.heap.size) (fun i _ => m - (intOf i).toNat)
  case atStart => exact ⟨0, by omega, rfl, H0.out, Nat.le_refl _⟩
  case round =>
    obtain ⟨k, hk, rfl, hJk, hsz⟩ := hrel
    by_cases hlt : k < m
    · have hlt' : (k : Int) < m := by omega
      obtain ⟨hp1, ⟨⟨a', c', he, _, _, hin⟩, hok⟩⟩ := HR.out _ _ hJk
      rw [← HM.out] at he
      cases he
      have hkl : k < l.length := by rw [← HM.out]; exact hlt
      obtain ⟨g, o, rfl, c0, c1⟩ := hin.get hkl
      have hjl := mod_lt' hkl
      obtain ⟨g', o', he, d0, d1⟩ := hin.get hjl
      cases he
      rw [← HM.out] at hp1
      have hj2 : ((k : Int) + 1) % m = (((k + 1) % l.length : Nat) : Int) := by rw [← HM.out]; push_cast; rfl
      have hjb : ((k + 1) % l.length : Nat) < m := by rw [HM.out]; exact hjl
      have HE : Hid (encE l k = #[.int .i64 k, .agg #[.int .i64 (vx l k).1, .int .i64 (vx l k).2, .int .i64 (vx l ((k + 1) % l.length)).1, .int .i64 (vx l ((k + 1) % l.length)).2]]) := Lib.hid rfl
      generalize (k + 1) % l.length = j at *
      have hjb' : (j : Int) < m := by omega
      have HK := Lib.hid hJk
      clear hJk hjl hin hok
      generalize vx l k = p at *
      generalize vx l j = q at *
      obtain ⟨p1, p2⟩ := p
      obtain ⟨q1, q2⟩ := q
      dsimp only at c0 c1 d0 d1 HE
      have HKL := Lib.hid hkl
      have HJ2 := Lib.hid hj2
      clear hkl hj2
      gi_wp2
      have x0 : ((wr.alloc (.cells #[.int .i64 p1, .int .i64 p2] 38)).drew).cell? ⟨wr.heap.size, 0, none⟩ = some (.int .i64 p1) := cell_rowN wr _ _ 0 rfl
      have x1 : ((wr.alloc (.cells #[.int .i64 p1, .int .i64 p2] 38)).drew).cell? ⟨wr.heap.size, 1, none⟩ = some (.int .i64 p2) := cell_rowN wr _ _ 1 rfl
      have hB : Below wr.heap.size wr ((wr.alloc (.cells #[.int .i64 p1, .int .i64 p2] 38)).drew) := (alloc_below wr _).drew
      have hp1 := keptBelow hB hp1
      have d0 := keptBelow hB d0
      have d1 := keptBelow hB d1
      refine wpIn_region_T (fun w' => Below ((wr.alloc (.cells #[.int .i64 p1, .int .i64 p2] 38)).drew).heap.size ((wr.alloc (.cells #[.int .i64 p1, .int .i64 p2] 38)).drew) w') 12 (by kernel_rfl) ?_
      have hk1 : IntKind.i64.wrap ((k : Int) + 1) = (k : Int) + 1 := IntWalk.i64_in _ (by omega)
      have hmo : ((k : Int) + 1).tmod m = j := by rw [Int.tmod_eq_emod_of_nonneg (by omega)]; exact HJ2.out
      have hm0 : ¬ m = 0 := by omega
      generalize (wr.alloc (.cells #[.int .i64 p1, .int .i64 p2] 38)).drew = wd at *
      refine wpT_tk 0 12 (v := ?_) (Below.refl _ _) rfl rfl (by rfl) (hy := fun w hw => ?_) (h := ?_)
      rotate_left
      · go_simp; with_reducible rfl
      try simp only [Act.put, List.setIfInBounds_toArray, List.set_cons_zero, List.set_cons_succ]
      refine wpT_tk 1 13 (v := ?_) (Below.refl _ _) rfl rfl (by rfl) (hy := fun w hw => ?_) (h := ?_)
      rotate_left
      · go_simp; with_reducible rfl
      try simp only [Act.put, List.setIfInBounds_toArray, List.set_cons_zero, List.set_cons_succ]
      refine wpT_tk 2 14 (v := ?_) (Below.refl _ _) rfl rfl (by rfl) (hy := fun w hw => ?_) (h := ?_)
      rotate_left
      · have x0 := keptBelow hw x0; have x1 := keptBelow hw x1; go_simp; with_reducible rfl
      try simp only [Act.put, List.setIfInBounds_toArray, List.set_cons_zero, List.set_cons_succ]
      refine wpT_tk 3 15 (v := ?_) (Below.refl _ _) rfl rfl (by rfl) (hy := fun w hw => ?_) (h := ?_)
      rotate_left
      · have hp1 := keptBelow hw hp1; go_simp; with_reducible rfl
      try simp only [Act.put, List.setIfInBounds_toArray, List.set_cons_zero, List.set_cons_succ]
      refine wpT_tk 4 16 (v := ?_) (Below.refl _ _) rfl rfl (by rfl) (hy := fun w hw => ?_) (h := ?_)
      rotate_left
      · go_simp; with_reducible rfl
      try simp only [Act.put, List.setIfInBounds_toArray, List.set_cons_zero, List.set_cons_succ]
      refine wpT_tk 5 17 (v := ?_) (Below.refl _ _) rfl rfl (by rfl) (hy := fun w hw => ?_) (h := ?_)
      rotate_left
      · go_simp; with_reducible rfl
      try simp only [Act.put, List.setIfInBounds_toArray, List.set_cons_zero, List.set_cons_succ]
      refine wpT_tk 6 18 (v := ?_) (Below.refl _ _) rfl rfl (by rfl) (hy := fun w hw => ?_) (h := ?_)
      rotate_left
      · have hp1 := keptBelow hw hp1; go_simp; with_reducible rfl
      try simp only [Act.put, List.setIfInBounds_toArray, List.set_cons_zero, List.set_cons_succ]
      refine wpT_tk 7 19 (v := ?_) (Below.refl _ _) rfl rfl (by rfl) (hy := fun w hw => ?_) (h := ?_)
      rotate_left
      · go_simp; with_reducible rfl
      try simp only [Act.put, List.setIfInBounds_toArray, List.set_cons_zero, List.set_cons_succ]
      refine wpT_tk 8 20 (v := ?_) (Below.refl _ _) rfl rfl (by rfl) (hy := fun w hw => ?_) (h := ?_)
      rotate_left
      · go_simp; with_reducible rfl
      try simp only [Act.put, List.setIfInBounds_toArray, List.set_cons_zero, List.set_cons_succ]
      refine wpT_tk 9 21 (v := ?_) (Below.refl _ _) rfl rfl (by rfl) (hy := fun w hw => ?_) (h := ?_)
      rotate_left
      · go_simp; with_reducible rfl
      try simp only [Act.put, List.setIfInBounds_toArray, List.set_cons_zero, List.set_cons_succ]
      refine wpT_tk 10 22 (v := ?_) (Below.refl _ _) rfl rfl (by rfl) (hy := fun w hw => ?_) (h := ?_)
      rotate_left
      · have d0 := keptBelow hw d0; have d1 := keptBelow hw d1; go_simp; with_reducible rfl
      try simp only [Act.put, List.setIfInBounds_toArray, List.set_cons_zero, List.set_cons_succ]
      refine wpT_tk 11 23 (v := ?_) (Below.refl _ _) rfl rfl (by rfl) (hy := fun w hw => ?_) (h := ?_)
      rotate_left
      · go_simp; with_reducible rfl
      try simp only [Act.put, List.setIfInBounds_toArray, List.set_cons_zero, List.set_cons_succ]
      obtain ⟨fn, tmps, assign, body, hy, hRR⟩ := HY.out _ wd HKL.out (HJ.out _ _ _ HK.out ⟨hB.os, hB.tape, hB.output, hB.size, fun b hb => hB.block b (Nat.lt_of_lt_of_le hb hsz)⟩) (Nat.le_trans hsz hB.size)
      rw [HE.out] at hy
      refine wpT_one 12 rfl rfl (by kernel_rfl) ?_
      go_simp
      refine ⟨(fun h => by cases h), ?_⟩
      have hws := Nat.le_trans hsz hB.size
      refine hRR.mono ?_
      rintro e W1 (⟨rfl, hJ1, hA1⟩ | ⟨rfl, hx1⟩)
      · have hs1 := hA1.size
        clear hRR hy x0 x1 hp1 d0 d1 c0 c1 hA1 hk1 hmo hm0 hB
        have HJ1 := Lib.hid hJ1
        clear hJ1
        dsimp only
        refine wpT_one 13 rfl rfl (by kernel_rfl) ?_
        go_simp
        refine wpT_done (by kernel_rfl) ?_ _
        gi_wp2
        go_roundw
        case rel => exact ⟨k + 1, by omega, by go_num, HJ1.out, by omega⟩
        case measure => simp [intOf]; omega
      · clear hRR hy x0 x1 hp1 d0 d1 c0 c1 hk1 hmo hm0 hB
        have HX1 := Lib.hid hx1
        clear hx1
        dsimp only
        refine wpT_one 13 rfl rfl (by kernel_rfl) ?_
        go_simp
        refine wpT_done (by kernel_rfl) ?_ _
        gi_wp2
        refine bodyPost_ret (results_none rfl _ _ _) rfl ?_
        exact ⟨⟨_, rfl⟩, .inr ⟨k, hlt, HX1.out⟩⟩
    · obtain rfl : k = m := by omega
      have HK := Lib.hid hJk
      clear hJk
      gi_wp2
      go_end0
      exact ⟨⟨_, rfl⟩, .inl HK.out⟩
end Go.Proofs.YtcamncipkofgkaaDoor
/- PlnPos: The contract of position. -/
namespace Go.Proofs.YtcamncipkofgkaaDoor
open Go.RowKit Go.Shelf Pln
attribute [local go_sem] Oper.semAt_some

/-- All corners are on the map, or on that of twice the size. -/
def Smls (l : List Pt) : Prop := ∀ i, i < l.length → Sml (vx l i)
theorem val_smls {l : List Pt} (v : Val l) : Smls l := fun i hi => on_sml (v.on i hi)
theorem cell_heap {A : World} {b i : Nat} {cs : Array Value} {t : TypeId} {fr : Nat × Nat} {x : Value} (h : A.heap[b]? = some (.cells cs t fr)) (hx : cs[i]? = some x) : A.cell? ⟨b, i, none⟩ = some x := (cell_of_row A b i cs t fr h).trans hx
theorem below_of_le {m n : Nat} {A A' : World} (h : Below n A A') (hm : m ≤ n) : Below m A A' := ⟨h.os, h.tape, h.output, h.size, fun b hb => h.block b (Nat.lt_of_lt_of_le hb hm)⟩
theorem kept_n {n : Nat} {w w' : World} {b i : Nat} {x : Value} (h : Below n w w') (hb : b < n) (hc : w.cell? ⟨b, i, none⟩ = some x) : w'.cell? ⟨b, i, none⟩ = some x := (h.cell (p := ⟨b, i, none⟩) hb).trans hc
theorem frozen_n {n : Nat} {w w' : World} {b i : Nat} {f : Bool} (h : Below n w w') (hb : b < n) (hc : w.frozen? ⟨b, i, none⟩ = f) : w'.frozen? ⟨b, i, none⟩ = f := (h.frozen (p := ⟨b, i, none⟩) hb).trans hc
theorem PtsIn.via_n {n : Nat} {w w' : World} {a : Option Addr} {l : List Pt} (h : PtsIn w a l) (hB : Below n w w') (hn : ∀ g o, a = some ⟨g, o, none⟩ → g < n) : PtsIn w' a l := by
  rcases h with h | ⟨g, o, h1, h2⟩
  · exact .inl h
  · exact .inr ⟨g, o, h1, fun j hj => ⟨kept_n hB (hn _ _ h1) (h2 j hj).1, kept_n hB (hn _ _ h1) (h2 j hj).2⟩⟩

/-- What stands while the edges are gone through: the list, the place, the number so far, as blocks of the call's own. -/
structure PosI (w : World) (v : Value) (l : List Pt) (p : Pt) (x : Int) (A : World) : Prop where
  held : A.cell? ⟨w.heap.size + 1 + 1, 0, none⟩ = some v
  p0 : A.cell? ⟨w.heap.size, 0, none⟩ = some (.int .i64 p.1)
  p1 : A.cell? ⟨w.heap.size, 1, none⟩ = some (.int .i64 p.2)
  now : Boxed A (w.heap.size + 1) 3 (.int .i64 x)
  below : Below w.heap.size w A
theorem PosI.held_ {w : World} {v : Value} {l : List Pt} {p : Pt} {x : Int} {A : World} (h : PosI w v l p x A) (hv : PtsAt w v l) : Held (w.heap.size + 1 + 1) v l A := ⟨h.held, hv.via h.below⟩
theorem PosI.via {w w0 : World} {v : Value} {l : List Pt} {p : Pt} {x : Int} {A A' : World} (h : PosI w v l p x A) (hB : Below w0.heap.size A A') (hs : w.heap.size + 1 + 1 < w0.heap.size) : PosI w v l p x A' :=
  ⟨kept_n hB hs h.held, kept_n hB (by omega) h.p0, kept_n hB (by omega) h.p1, (hB.block _ (by omega)).trans h.now, h.below.trans (below_of_le hB (by omega))⟩
theorem cell_set_ne {A : World} {b i b' i' : Nat} {y : Value} (h : b ≠ b') : (A.setCell ⟨b', i', none⟩ y).cell? ⟨b, i, none⟩ = A.cell? ⟨b, i, none⟩ := World.cell?_of_block (heap_setCell_other A ⟨b', i', none⟩ b y (by simpa using h))
theorem PosI.set {w : World} {v : Value} {l : List Pt} {p : Pt} {x : Int} {A : World} (h : PosI w v l p x A) (y : Int) : PosI w v l p y (A.setCell ⟨w.heap.size + 1, 0, none⟩ (.int .i64 y)) :=
  ⟨(cell_set_ne (by omega)).trans h.held, (cell_set_ne (by omega)).trans h.p0, (cell_set_ne (by omega)).trans h.p1, h.now.set _, h.below.setCell (p := ⟨w.heap.size + 1, 0, none⟩) (by simp) _⟩

set_option maxRecDepth 100000 in
set_option maxHeartbeats 4000000 in
theorem position_in (l : List Pt) (p : Pt) (v : Value) (w : World) (hv : PtsAt w v l) (hl : l.length ≤ 100) (hs : Smls l) (hp : Sml p) :
    CallsIn Fence.wide 5 Tryd.prog 68 #[v, pv p] w fun e w' => e = .returned (.int .i64 (posP l p)) ∧ Below w.heap.size w w' := by
  have HV := Lib.hid hv
  obtain ⟨⟨a, c, rfl, _, _, _⟩, _⟩ := hv
  obtain ⟨m, hm⟩ : ∃ m, m = l.length := ⟨_, rfl⟩
  have HM := Lib.hid hm
  have hl0 := hl
  have hml : (m : Int) ≤ 100 := by omega
  rw [← hm] at HV ⊢
  clear hm
  refine callsIn_of_wp_marks Tryd.func68 rfl trivial ?_ rfl
  simp only [Tryd.ntmps68, List.size_toArray, List.length_cons, List.length_nil, Nat.reduceAdd, Nat.reduceSub, Array.replicate_succ, Array.replicate_zero, List.push_toArray, List.append_toArray, List.nil_append, List.cons_append]
  unfold pv
  gi_wp2_with fail
  refine ⟨trivial, ?_⟩
  refine (callsIn_wide.2 (edges_w _ _ _ _)).mono ?_
  rintro e w1 ⟨rfl, rfl⟩
  gi_wp2_with fail
  obtain ⟨w0, hw0⟩ : ∃ w0 : World, w0 = ((w.alloc (.cells #[.int .i64 p.1, .int .i64 p.2] 38)).alloc (.cells #[.int .i64 1] 3)).alloc (.cells #[.slice a m c] 25) := ⟨_, rfl⟩
  have hsz : w0.heap.size = w.heap.size + 1 + 1 + 1 := by rw [hw0, World.size_alloc, World.size_alloc, World.size_alloc]
  have hB0 : Below w.heap.size w w0 := by rw [hw0]; exact (((Below.refl _ w).alloc (Nat.le_refl _) _).alloc (by simp) _).alloc (by simp; omega) _
  have hI0 : PosI w (.slice a m c) l p 1 w0 := by
    rw [hw0]
    have e1 : (w.alloc (.cells #[.int .i64 p.1, .int .i64 p.2] 38)).heap.size = w.heap.size + 1 := World.size_alloc _ _
    have e2 : ((w.alloc (.cells #[.int .i64 p.1, .int .i64 p.2] 38)).alloc (.cells #[.int .i64 1] 3)).heap.size = w.heap.size + 1 + 1 := by rw [World.size_alloc, e1]
    refine ⟨?_, cellA _ (cellA _ (cell_rowN w _ _ 0 rfl)), cellA _ (cellA _ (cell_rowN w _ _ 1 rfl)), ?_, by rw [← hw0]; exact hB0⟩
    · rw [← e2]; exact cell_rowN _ _ _ 0 rfl
    · rw [← e1]; exact (Boxed.new _ _ _).alloc _
  rw [← hw0]
  have HI0 := Lib.hid hI0
  clear hw0 hI0 hB0
  refine wpIn_rangeFunc_yields rfl (by omega) (gf := 100) (lb := #[.pointer (some ⟨w.heap.size + 1 + 1, 0, none⟩)]) rfl trivial (enters_of Tryd.func100 (by kernel_rfl) rfl)
    (edges1_yields 4 (w.heap.size + 1 + 1) (.slice a m c) l hl0) (fun _ => rfl)
    (fun k A => PosI w (.slice a m c) l p (lst l p k) A) (fun _ _ _ => False)
    (fun k A A' h hB => h.via hB (by omega)) (fun _ _ _ _ h _ => h) (fun k A h => h.held_ HV.out) HI0.out
    (fun k a' A => ∃ Be, Be ≠ w0.heap.size + 1 ∧ w.heap.size + 1 + 1 < Be ∧ A.heap[Be]? = some (.cells #[.int .i64 (vx l k).1, .int .i64 (vx l k).2, .int .i64 (nx l k).1, .int .i64 (nx l k).2] 113 (0, 0)) ∧ a' = { tmps := #[.slice a m c, .agg #[.int .i64 p.1, .int .i64 p.2], undef, .pointer (some ⟨w.heap.size, 0, none⟩), .int .i64 0, .pointer (some ⟨w.heap.size + 1, 0, none⟩), undef, .pointer (some ⟨Be, 0, none⟩), .slice a m c, .func (.func 100) #[] #[.pointer (some ⟨w.heap.size + 1 + 1, 0, none⟩)], .int .i64 k, ev (vx l k) (nx l k), undef, undef, undef, undef, undef, undef, undef], defers := [] })
    (fun k a' A A' ⟨Be, h1, h2, h3, h4⟩ hk => ⟨Be, h1, h2, (hk Be h1).trans h3, h4⟩) ?assign ?body ?done (fun _ _ _ _ _ _ h _ => h.elim)
  case assign =>
    rintro L k W hk hlt hI
    have HI := Lib.hid hI
    clear hI
    have HE : Hid (encE l k = #[.int .i64 k, ev (vx l k) (nx l k)]) := Lib.hid rfl
    rw [HE.out]
    unfold ev
    gi_wp2
    have hb2 : Below W.heap.size W (W.alloc (.cells #[.int .i64 (vx l k).1, .int .i64 (vx l k).2, .int .i64 (nx l k).1, .int .i64 (nx l k).2] 113)) := alloc_below _ _
    exact ⟨Above.of_below hb2, HI.out.via (w0 := w0) (below_of_le hb2 (by omega)) (by omega), W.heap.size, by omega, by omega, heap_alloc_new _ _, rfl⟩
  case body =>
    rintro L k a' W hk hlt hI ⟨Be, hne, hlt2, hE, rfl⟩
    have hkl := hk
    have ht := fun w => turn_w (vx l k) (nx l k) p (hs k hkl) (hs _ (mod_lt' hkl)) hp w
    have hti := turn_in (hs k hkl) (hs _ (mod_lt' hkl)) hp
    have hnx : nx l k = vx l ((k + 1) % l.length) := rfl
    rw [← hnx] at hti
    obtain ⟨t, htt⟩ : ∃ t, t = turn (vx l k) (nx l k) p := ⟨_, rfl⟩
    rw [← htt] at ht hti
    have hle := lst_le l p k
    have HX : Hid (lst l p (k + 1) = min (lst l p k) t) := by rw [htt]; exact Lib.hid rfl
    obtain ⟨x, hx⟩ : ∃ x, x = lst l p k := ⟨_, rfl⟩
    obtain ⟨y, hy⟩ : ∃ y, y = lst l p (k + 1) := ⟨_, rfl⟩
    rw [← hx] at hI hle HX
    rw [← hy] at HX
    have HYY := Lib.hid hy
    have hmn : (if t < x then t else x) = y := by rw [HX.out]; split <;> omega
    have c0 := hI.now.cell
    have c1 := hI.now.frozen
    have p0 := hI.p0
    have p1 := hI.p1
    have e0 : W.cell? ⟨Be, 0, none⟩ = some (.int .i64 (vx l k).1) := cell_heap hE rfl
    have e1 : W.cell? ⟨Be, 1, none⟩ = some (.int .i64 (vx l k).2) := cell_heap hE rfl
    have e2 : W.cell? ⟨Be, 2, none⟩ = some (.int .i64 (nx l k).1) := cell_heap hE rfl
    have e3 : W.cell? ⟨Be, 3, none⟩ = some (.int .i64 (nx l k).2) := cell_heap hE rfl
    have HT := Lib.hid ht
    have HI := Lib.hid hI
    clear ht hI HX hnx htt hx hy hE HI0
    unfold ev at HT ⊢
    unfold pv at HT
    generalize vx l k = s at *
    generalize nx l k = r at *
    have k0 : W.drew.cell? ⟨w.heap.size + 1, 0, none⟩ = some (.int .i64 x) := c0
    have k1 : W.drew.frozen? ⟨w.heap.size + 1, 0, none⟩ = false := c1
    have p0 : W.drew.cell? ⟨w.heap.size, 0, none⟩ = some (.int .i64 p.1) := p0
    have p1 : W.drew.cell? ⟨w.heap.size, 1, none⟩ = some (.int .i64 p.2) := p1
    have e0 : W.drew.cell? ⟨Be, 0, none⟩ = some (.int .i64 s.1) := e0
    have e1 : W.drew.cell? ⟨Be, 1, none⟩ = some (.int .i64 s.2) := e1
    have e2 : W.drew.cell? ⟨Be, 2, none⟩ = some (.int .i64 r.1) := e2
    have e3 : W.drew.cell? ⟨Be, 3, none⟩ = some (.int .i64 r.2) := e3
    gi_wp2
    have hB : Below W.heap.size W W.drew := (Below.refl _ _).drew
    refine wpIn_region_T (fun w' => Below W.drew.heap.size W.drew w') 5 (by kernel_rfl) ?_
    generalize W.drew = wd at *
    refine wpT_tk 0 12 (v := ?_) (Below.refl _ _) rfl rfl (by rfl) (hy := fun w hw => ?_) (h := ?_)
    rotate_left
    · have k0 := keptBelow hw k0; go_simp; with_reducible rfl
    try simp only [Act.put, List.setIfInBounds_toArray, List.set_cons_zero, List.set_cons_succ]
    refine wpT_tk 1 13 (v := ?_) (Below.refl _ _) rfl rfl (by rfl) (hy := fun w hw => ?_) (h := ?_)
    rotate_left
    · have e0 := keptBelow hw e0; have e1 := keptBelow hw e1; have e2 := keptBelow hw e2; have e3 := keptBelow hw e3; go_simp; with_reducible rfl
    try simp only [Act.put, List.setIfInBounds_toArray, List.set_cons_zero, List.set_cons_succ]
    refine wpT_tk 2 14 (v := ?_) (Below.refl _ _) rfl rfl (by rfl) (hy := fun w hw => ?_) (h := ?_)
    rotate_left
    · have p0 := keptBelow hw p0; have p1 := keptBelow hw p1; go_simp; with_reducible rfl
    try simp only [Act.put, List.setIfInBounds_toArray, List.set_cons_zero, List.set_cons_succ]
    refine wpT_one 3 rfl rfl (by kernel_rfl) ?_
    go_simp
    refine ⟨trivial, ?_⟩
    refine ((callsIn_wide.2 (HT.out _)).inRound L).mono ?_

    rintro e w3 ⟨rfl, hB3⟩
    have k1 := frozenBelow hB3 k0 k1
    have k0 := keptBelow hB3 k0
    have hB := belowVia hB3 hB
    clear e0 e1 e2 e3 p0 p1
    refine ⟨hB3, ?_⟩
    refine wpT_tk 4 16 (v := ?_) hB3 rfl rfl (by rfl) (hy := fun w hw => ?_) (h := ?_)
    rotate_left
    · go_simp; with_reducible rfl
    try simp only [Act.put, List.setIfInBounds_toArray, List.set_cons_zero, List.set_cons_succ]
    refine wpT_one 5 rfl rfl (by kernel_rfl) ?_
    go_simp
    refine wpT_done (by kernel_rfl) ?_ _
    refine ⟨(Above.of_below hB).trans (Above.setCell w3 (w.heap.size + 1) 0 _ (by omega)), ?_⟩
    have h5 := (HI.out.via (w0 := W) hB (by omega)).set y
    rw [HYY.out] at h5 ⊢
    exact h5
  case done =>
    rintro D W hD hI hK
    have c0 := hI.now.cell
    have hle := lst_le l p l.length
    have hp : posP l p = max (lst l p l.length) (-1) := rfl
    obtain ⟨x, hx⟩ : ∃ x, x = lst l p l.length := ⟨_, rfl⟩
    rw [← hx] at hI hle hp c0
    have HP := Lib.hid hp
    have hB := hI.below
    have hDl : D < W.heap.size := (Array.getElem?_eq_some_iff.1 hK).1
    have HK := Lib.hid hK
    clear hI hK hp hx HI0
    gi_wp2
    · refine ⟨by simp, .inl ⟨_, _, rfl, run_takeDeferred HK.out, ?_⟩⟩
      exact ⟨_, results_tmp rfl _ _ _, (by rw [show posP l p = -1 by rw [HP.out]; omega]; rfl), hB.trans (belowK_b (w := w) (Nat.le_refl _) W D _ _ (by omega) HK.out rfl rfl)⟩
    · refine ⟨by simp, .inl ⟨_, _, rfl, run_takeDeferred HK.out, ?_⟩⟩
      exact ⟨_, results_tmp rfl _ _ _, (by rw [show posP l p = x by rw [HP.out]; omega]; rfl), hB.trans (belowK_b (w := w) (Nat.le_refl _) W D _ _ (by omega) HK.out rfl rfl)⟩
theorem position_w (l : List Pt) (p : Pt) (v : Value) (w : World) (hv : PtsAt w v l) (hl : l.length ≤ 100) (hs : Smls l) (hp : Sml p) :
    Calls Tryd.prog 68 #[v, pv p] w fun e w' => e = .returned (.int .i64 (posP l p)) ∧ Below w.heap.size w w' :=
  callsIn_wide.1 (position_in l p v w hv hl hs hp)
end Go.Proofs.YtcamncipkofgkaaDoor
