/- Plain mathematics of layer 7: a polygon that is moved. Nothing of the program. -/
import Derived.Test.YtliligehofjegaaPlnCutP
namespace Pln

def mv (dx dy : Int) (p : Pt) : Pt := (p.1 + dx, p.2 + dy)
theorem shf_eq (l : List Pt) (dx dy : Int) : shf l dx dy = l.map (mv dx dy) := rfl
theorem shf_len (l : List Pt) (dx dy : Int) : (shf l dx dy).length = l.length := by unfold shf; simp
theorem shf_vx {l : List Pt} {dx dy : Int} {i : Nat} (h : i < l.length) : vx (shf l dx dy) i = mv dx dy (vx l i) := by
  rw [vx_eq (by rw [shf_len]; exact h), vx_eq h]; unfold shf mv; simp
theorem shf_nx {l : List Pt} {dx dy : Int} {i : Nat} (h : i < l.length) : nx (shf l dx dy) i = mv dx dy (nx l i) := by
  unfold nx; rw [shf_len, shf_vx (mod_lt' h)]
theorem mv_turn (dx dy : Int) (a b c : Pt) : turn (mv dx dy a) (mv dx dy b) (mv dx dy c) = turn a b c := by unfold turn mv; grind
theorem sum_shf (l : List Pt) (dx dy : Int) (F : Pt → Pt → Int) : sumE (shf l dx dy) F l.length = sumE l (fun a b => F (mv dx dy a) (mv dx dy b)) l.length :=
  sm_congr fun i hi => by rw [shf_vx hi, shf_nx hi]
theorem sumE_add (l : List Pt) (F G : Pt → Pt → Int) (n : Nat) : sumE l (fun a b => F a b + G a b) n = sumE l F n + sumE l G n := sm_add _ _ n
theorem sumE_mul (l : List Pt) (c : Int) (F : Pt → Pt → Int) (n : Nat) : sumE l (fun a b => c * F a b) n = c * sumE l F n := sm_mul c _ n
theorem sumE_congr {l : List Pt} {F G : Pt → Pt → Int} (h : ∀ a b, F a b = G a b) (n : Nat) : sumE l F n = sumE l G n := sm_congr fun _ _ => h _ _
/-- The area stays. -/
theorem area_shf (l : List Pt) (dx dy : Int) : sumE (shf l dx dy) crs l.length = sumE l crs l.length := by
  rw [sum_shf]
  have e : ∀ a b, crs (mv dx dy a) (mv dx dy b) = crs a b + ((dx * b.2 - dy * b.1) - (dx * a.2 - dy * a.1)) := fun a b => by unfold crs mv; grind
  rw [sumE_congr e, sumE_add, sumE_tele l (fun p => dx * p.2 - dy * p.1), Int.add_zero]
/-- The moments change by three times the distance times the area. -/
theorem mx_shf (l : List Pt) (dx dy : Int) : sumE (shf l dx dy) (fun a b => (a.1 + b.1) * crs a b) l.length = sumE l (fun a b => (a.1 + b.1) * crs a b) l.length + 3 * dx * sumE l crs l.length := by
  rw [sum_shf]
  have e : ∀ a b : Pt, ((mv dx dy a).1 + (mv dx dy b).1) * crs (mv dx dy a) (mv dx dy b) = ((a.1 + b.1) * crs a b + (3 * dx) * crs a b) +
      ((dx * (b.1 * b.2) - dy * (b.1 * b.1) + 2 * dx * (dx * b.2 - dy * b.1)) - (dx * (a.1 * a.2) - dy * (a.1 * a.1) + 2 * dx * (dx * a.2 - dy * a.1))) := fun a b => by unfold crs mv; grind
  rw [sumE_congr e, sumE_add, sumE_add, sumE_mul, sumE_tele l (fun p => dx * (p.1 * p.2) - dy * (p.1 * p.1) + 2 * dx * (dx * p.2 - dy * p.1)), Int.add_zero]
theorem my_shf (l : List Pt) (dx dy : Int) : sumE (shf l dx dy) (fun a b => (a.2 + b.2) * crs a b) l.length = sumE l (fun a b => (a.2 + b.2) * crs a b) l.length + 3 * dy * sumE l crs l.length := by
  rw [sum_shf]
  have e : ∀ a b : Pt, ((mv dx dy a).2 + (mv dx dy b).2) * crs (mv dx dy a) (mv dx dy b) = ((a.2 + b.2) * crs a b + (3 * dy) * crs a b) +
      ((dx * (b.2 * b.2) - dy * (b.1 * b.2) + 2 * dy * (dx * b.2 - dy * b.1)) - (dx * (a.2 * a.2) - dy * (a.1 * a.2) + 2 * dy * (dx * a.2 - dy * a.1))) := fun a b => by unfold crs mv; grind
  rw [sumE_congr e, sumE_add, sumE_add, sumE_mul, sumE_tele l (fun p => dx * (p.2 * p.2) - dy * (p.1 * p.2) + 2 * dy * (dx * p.2 - dy * p.1)), Int.add_zero]
theorem stp_shf (l : List Pt) (dx dy : Int) : sumE (shf l dx dy) stp l.length = sumE l stp l.length := by
  rw [sum_shf]
  refine sumE_congr (fun a b => ?_) _
  unfold stp mv
  rw [show b.1 + dx - (a.1 + dx) = b.1 - a.1 by omega, show b.2 + dy - (a.2 + dy) = b.2 - a.2 by omega]
theorem val_shf {l : List Pt} {dx dy : Int} (v : Val l) (h : ∀ p ∈ shf l dx dy, On p) : Val (shf l dx dy) := by
  have e := shf_len l dx dy
  refine ⟨by rw [e]; exact v.lo, by rw [e]; exact v.hi, fun i hi => h _ (vx_mem hi), fun i hi j hj h1 h2 => ?_⟩
  rw [e] at hi hj h2
  rw [shf_vx hi, shf_nx hi, shf_vx hj, mv_turn]
  exact v.left i hi j hj h1 h2
theorem sepB_shf (a b : List Pt) (dx dy : Int) {i : Nat} (hi : i < a.length) : sepB (shf a dx dy) (shf b dx dy) i = sepB a b i := by
  unfold sepB
  rw [shf_vx hi, shf_nx hi, shf_eq b, List.all_map]
  congr 1
  funext c
  simp only [Function.comp, mv_turn]
theorem sepF_congr {l o l' o' : List Pt} : ∀ {n k : Nat}, (∀ j, k ≤ j → j < k + n → sepB l o j = sepB l' o' j) → sepF l o n k = sepF l' o' n k
  | 0, _, _ => rfl
  | n + 1, k, h => by
    rw [sepF, sepF, h k (Nat.le_refl _) (by omega), sepF_congr (n := n) (k := k + 1) fun j h1 h2 => h j (by omega) (by omega)]
theorem sep_shf (a b : List Pt) (dx dy : Int) : sep (shf a dx dy) (shf b dx dy) = sep a b := by
  unfold sep
  rw [shf_len]
  exact sepF_congr fun j _ h => sepB_shf a b dx dy (by omega)
theorem side_shf {a b : List Pt} {dx dy : Int} (va : Val a) (vb : Val b) (va' : Val (shf a dx dy)) (vb' : Val (shf b dx dy)) : sideP (shf a dx dy) (shf b dx dy) = sideP a b := by
  unfold sideP
  rw [if_pos ⟨(valB_iff _).2 va', (valB_iff _).2 vb'⟩, if_pos ⟨(valB_iff _).2 va, (valB_iff _).2 vb⟩, sep_shf, sep_shf]
theorem over_shf {a b : List Pt} {dx dy : Int} (va : Val a) (vb : Val b) (va' : Val (shf a dx dy)) (vb' : Val (shf b dx dy)) : overP (shf a dx dy) (shf b dx dy) = overP a b := by
  unfold overP
  rw [side_shf va vb va' vb', (valB_iff _).2 va, (valB_iff _).2 vb, (valB_iff _).2 va', (valB_iff _).2 vb']
theorem lst_shf (l : List Pt) (dx dy : Int) (p : Pt) : ∀ {k : Nat}, k ≤ l.length → lst (shf l dx dy) (mv dx dy p) k = lst l p k
  | 0, _ => rfl
  | k + 1, h => by rw [lst, lst, lst_shf l dx dy p (by omega), shf_vx (by omega), shf_nx (by omega), mv_turn]
theorem pos_shf (l : List Pt) (dx dy : Int) (p : Pt) : posP (shf l dx dy) (mv dx dy p) = posP l p := by
  unfold posP; rw [shf_len, lst_shf l dx dy p (Nat.le_refl _)]
theorem com_shf (a b : List Pt) (dx dy : Int) : comP (shf a dx dy) (shf b dx dy) = (comP a b).map (mv dx dy) := by
  unfold comP
  rw [shf_eq a, shf_eq b, ← List.map_append, List.filter_map]
  congr 1
  apply List.filter_congr
  intro c _
  simp only [Function.comp, ← shf_eq, pos_shf]
theorem mv_inj {dx dy : Int} {p q : Pt} : mv dx dy p = mv dx dy q ↔ p = q := by
  obtain ⟨a, b⟩ := p; obtain ⟨c, d⟩ := q
  unfold mv; simp only [Prod.mk.injEq]; omega
theorem dir_shf (s e : Pt) (l : List Pt) (dx dy : Int) : dirP (mv dx dy s) (mv dx dy e) (shf l dx dy) = (mv dx dy (dirP s e l).1, mv dx dy (dirP s e l).2) := by
  unfold dirP
  rw [shf_eq, List.any_map]
  have : ((fun c => decide (0 < turn (mv dx dy s) (mv dx dy e) c)) ∘ mv dx dy) = fun c => decide (0 < turn s e c) := by
    funext c; simp only [Function.comp, mv_turn]
  rw [this]
  split <;> rfl
/-- The seam is moved along. -/
theorem seam_shf {a b : List Pt} {dx dy : Int} (va : Val a) (vb : Val b) (va' : Val (shf a dx dy)) (vb' : Val (shf b dx dy)) : seamP (shf a dx dy) (shf b dx dy) = (seamP a b).map fun s => (mv dx dy s.1, mv dx dy s.2) := by
  unfold seamP
  rw [side_shf va vb va' vb', com_shf]
  split
  · rcases comP a b with _ | ⟨f, r⟩
    · rfl
    · simp only [List.map_cons]
      rw [← List.map_cons, List.find?_map]
      have : ((fun c => decide (mv dx dy f ≠ c)) ∘ mv dx dy) = fun c => decide (f ≠ c) := by
        funext c
        simp only [Function.comp]
        by_cases e : f = c
        · simp [e]
        · have : mv dx dy f ≠ mv dx dy c := fun h => e (mv_inj.1 h)
          simp [e, this]
      rw [this]
      rcases (f :: r).find? fun c => decide (f ≠ c) with _ | c
      · rfl
      · simp only [Option.map_some]
        rw [dir_shf]
  · rfl
theorem shf_back (l : List Pt) (dx dy : Int) : shf (shf l dx dy) (-dx) (-dy) = l := by
  rw [shf_eq, shf_eq, List.map_map]
  have : mv (-dx) (-dy) ∘ mv dx dy = id := by
    funext p; unfold mv; simp only [Function.comp, id]
    exact Prod.ext (by dsimp only; omega) (by dsimp only; omega)
  rw [this, List.map_id]
/-- Off the map, one corner after the other. -/
def offB (l : List Pt) (dx dy : Int) : Nat → Bool
  | 0 => false
  | k + 1 => offB l dx dy k || !onB (mv dx dy (vx l k))
theorem offB_iff (l : List Pt) (dx dy : Int) : ∀ k, offB l dx dy k = false ↔ ∀ i, i < k → onB (mv dx dy (vx l i)) = true
  | 0 => ⟨fun _ i hi => by omega, fun _ => rfl⟩
  | k + 1 => by
    rw [offB, Bool.or_eq_false_iff, offB_iff l dx dy k]
    refine ⟨fun ⟨h1, h2⟩ i hi => ?_, fun h => ⟨fun i hi => h i (by omega), by rw [h k (by omega)]; rfl⟩⟩
    by_cases e : i = k
    · rw [e]; simpa using h2
    · exact h1 i (by omega)
theorem all_shf (l : List Pt) (dx dy : Int) : (shf l dx dy).all onB = !offB l dx dy l.length := by
  rcases e : offB l dx dy l.length with _ | _
  · rw [offB_iff] at e
    rw [List.all_eq_true.2]
    · rfl
    · intro p hp
      obtain ⟨i, hi, rfl⟩ := mem_vx hp
      rw [shf_len] at hi
      rw [shf_vx hi]; exact e i hi
  · rcases e2 : (shf l dx dy).all onB with _ | _
    · rfl
    · have : offB l dx dy l.length = false := (offB_iff l dx dy l.length).2 fun i hi => by
        rw [← shf_vx hi]; exact List.all_eq_true.1 e2 _ (vx_mem (by rw [shf_len]; exact hi))
      rw [this] at e; cases e
theorem move_eq {l : List Pt} (v : Val l) (dx dy : Int) : moveP l dx dy = if offB l dx dy l.length = true then none else some (shf l dx dy) := by
  unfold moveP
  rw [if_pos ((valB_iff l).2 v), all_shf]
  rcases offB l dx dy l.length with _ | _ <;> rfl
end Pln
