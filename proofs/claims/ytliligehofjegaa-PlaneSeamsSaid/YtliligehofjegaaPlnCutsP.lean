/- Plain mathematics of layer 7: what the parts of a cut are (areas, moments, overlap, seam, interiors). Nothing of the program. -/
import Derived.Test.YtliligehofjegaaPlnCutP
namespace Pln

theorem sm_rot (f : Nat → Int) (n k : Nat) (h : k ≤ n) : sm (fun i => f ((i + k) % n)) n = sm f n := by
  rcases Nat.eq_zero_or_pos n with rfl | hn
  · rfl
  · obtain ⟨m, rfl⟩ : ∃ m, n = m + k := ⟨n - k, by omega⟩
    rw [sm_split]
    have e1 : sm (fun i => f ((i + k) % (m + k))) m = sm (fun i => f (k + i)) m := sm_congr fun i hi => by rw [Nat.mod_eq_of_lt (by omega), Nat.add_comm]
    have e2 : sm (fun i => f ((m + i + k) % (m + k))) k = sm f k := sm_congr fun i hi => by
      rw [show m + i + k = i + (m + k) by omega, Nat.add_mod_right, Nat.mod_eq_of_lt (by omega)]
    rw [e1, e2, Nat.add_comm m k, sm_split]; omega
theorem sum_rot (l : List Pt) {k : Nat} (h : k ≤ l.length) (F : Pt → Pt → Int) : sumE (rot l k) F l.length = sumE l F l.length := by
  unfold sumE
  rw [← sm_rot (fun i => F (vx l i) (nx l i)) l.length k h]
  exact sm_congr fun i hi => by rw [rot_vx h hi, rot_nx h hi]
/-- The one part: from the first corner to the corner d. -/
def fpt (r : List Pt) (d : Nat) : List Pt := r.take (d + 1)
def spt (r : List Pt) (d : Nat) : List Pt := r.drop d ++ [vx r 0]
theorem fpt_len {r : List Pt} {d : Nat} (h : d < r.length) : (fpt r d).length = d + 1 := by unfold fpt; rw [List.length_take]; omega
theorem spt_len {r : List Pt} {d : Nat} (h : d < r.length) : (spt r d).length = r.length - d + 1 := by unfold spt; simp
theorem fpt_vx {r : List Pt} {d j : Nat} (h : j ≤ d) : vx (fpt r d) j = vx r j := take_vx (by omega)
theorem spt_vx {r : List Pt} {d j : Nat} (h : d < r.length) (hj : j ≤ r.length - d) : vx (spt r d) j = vx r ((d + j) % r.length) := by
  unfold spt
  by_cases e : j = r.length - d
  · subst e
    rw [show d + (r.length - d) = r.length by omega, Nat.mod_self]
    have := vx_app_r (a := r.drop d) (b := [vx r 0]) 0
    rw [List.length_drop, Nat.add_zero] at this
    rw [this]; rfl
  · rw [vx_app_l (by rw [List.length_drop]; omega), Nat.mod_eq_of_lt (by omega)]
    unfold vx; rw [List.getD_eq_getElem?_getD, List.getD_eq_getElem?_getD, List.getElem?_drop]
theorem fpt_nx {r : List Pt} {d j : Nat} (h : d < r.length) (hj : j < d) : nx (fpt r d) j = vx r (j + 1) := by
  rw [nx_in (by rw [fpt_len h]; omega), fpt_vx (by omega)]
theorem fpt_nx_last {r : List Pt} {d : Nat} (h : d < r.length) : nx (fpt r d) d = vx r 0 := by
  rw [nx_last (by rw [fpt_len h]), fpt_vx (by omega)]
theorem spt_nx {r : List Pt} {d j : Nat} (h : d < r.length) (hj : j < r.length - d) : nx (spt r d) j = nx r (d + j) := by
  rw [nx_in (by rw [spt_len h]; omega), spt_vx h (by omega)]; unfold nx; rw [show d + (j + 1) = d + j + 1 by omega]
theorem spt_nx_last {r : List Pt} {d : Nat} (h : d < r.length) : nx (spt r d) (r.length - d) = vx r d := by
  rw [nx_last (by rw [spt_len h]), spt_vx h (by omega), Nat.add_zero, Nat.mod_eq_of_lt h]
/-- What goes back is taken off. -/
theorem sum_parts {r : List Pt} {d : Nat} (h : d < r.length) {F : Pt → Pt → Int} (hF : ∀ a b, F a b + F b a = 0) :
    sumE (fpt r d) F (d + 1) + sumE (spt r d) F (r.length - d + 1) = sumE r F r.length := by
  have e1 : sumE (fpt r d) F (d + 1) = sm (fun i => F (vx r i) (nx r i)) d + F (vx r d) (vx r 0) := by
    rw [sumE_succ, fpt_nx_last h, fpt_vx (Nat.le_refl d)]
    congr 1
    exact sm_congr fun i hi => by rw [fpt_vx (by omega), fpt_nx h hi, nx_in (by omega)]
  have e2 : sumE (spt r d) F (r.length - d + 1) = sm (fun i => F (vx r (d + i)) (nx r (d + i))) (r.length - d) + F (vx r 0) (vx r d) := by
    rw [sumE_succ, spt_nx_last h, spt_vx h (Nat.le_refl _), show d + (r.length - d) = r.length by omega, Nat.mod_self]
    congr 1
    exact sm_congr fun i hi => by rw [spt_vx h (by omega), spt_nx h hi, Nat.mod_eq_of_lt (by omega)]
  have e3 : sumE r F r.length = sm (fun i => F (vx r i) (nx r i)) d + sm (fun i => F (vx r (d + i)) (nx r (d + i))) (r.length - d) := by
    unfold sumE
    have := sm_split (fun i => F (vx r i) (nx r i)) d (r.length - d)
    rw [show d + (r.length - d) = r.length by omega] at this
    exact this
  have := hF (vx r d) (vx r 0)
  rw [e1, e2, e3]; omega
theorem run_fpt {l : List Pt} {i k : Nat} (hi : i < l.length) (hk : k < l.length) : ∃ d, d < l.length ∧ (i + d) % l.length = k ∧ runP l i k = fpt (rot l i) d ∧ (0 < d → runP l k i = spt (rot l i) d) := by
  have hd : (l.drop i).length = l.length - i := List.length_drop
  have hd2 : (l.drop k).length = l.length - k := List.length_drop
  have h0 : vx (rot l i) 0 = vx l i := by rw [rot_vx (by omega) (by omega), Nat.zero_add, Nat.mod_eq_of_lt hi]
  have ht : l.take (i + 1) = l.take i ++ [vx l i] := by rw [List.take_add_one, vx_eq hi, List.getElem?_eq_getElem hi]; rfl
  unfold fpt spt
  rw [h0]
  unfold runP rot
  by_cases h : i ≤ k
  · refine ⟨k - i, by omega, by rw [show i + (k - i) = k by omega, Nat.mod_eq_of_lt hk], ?_, fun hp => ?_⟩
    · rw [if_pos h, List.take_append_of_le_length (by rw [hd]; omega), List.drop_take, show k + 1 - i = k - i + 1 by omega]
    · rw [if_neg (by omega), List.drop_append_of_le_length (by rw [hd]; omega), List.drop_drop, show i + (k - i) = k by omega, ht, List.append_assoc]
  · refine ⟨k + l.length - i, by omega, by rw [show i + (k + l.length - i) = k + l.length by omega, Nat.add_mod_right, Nat.mod_eq_of_lt hk], ?_, fun hp => ?_⟩
    · rw [if_neg h, List.take_append, List.take_of_length_le (l := l.drop i) (by rw [hd]; omega), hd, List.take_take, show min (k + l.length - i + 1 - (l.length - i)) i = k + 1 by omega]
    · rw [if_pos (by omega), ht, List.drop_append_of_le_length (by rw [List.length_take]; omega), List.drop_append, List.drop_of_length_le (l := l.drop i) (by rw [hd]; omega), hd, List.nil_append, show k + l.length - i - (l.length - i) = k by omega]
/-- When a cut is none. -/
def AdjP (n i k : Nat) : Prop := i = k ∨ (i + 1) % n = k ∨ (k + 1) % n = i
theorem cut_parts {l : List Pt} (v : Val l) {i k : Nat} (hi : i < l.length) (hk : k < l.length) :
    (AdjP l.length i k ∧ cutP l i k = none) ∨ (¬ AdjP l.length i k ∧ ∃ d, 2 ≤ d ∧ d + 2 ≤ l.length ∧ (i + d) % l.length = k ∧ cutP l i k = some (fpt (rot l i) d, spt (rot l i) d)) := by
  have := v.lo
  obtain ⟨d, hd, hm, e1, e2⟩ := run_fpt hi hk
  have hr : (rot l i).length = l.length := rot_len (by omega)
  have hc : cutP l i k = if min (runP l i k).length (runP l k i).length < 3 then none else some (runP l i k, runP l k i) := by
    unfold cutP; rw [if_pos ⟨(valB_iff l).2 v, by omega, by omega⟩]; simp
  have hadj : AdjP l.length i k ↔ d = 0 ∨ d = 1 ∨ d + 1 = l.length := by
    unfold AdjP
    have m1 : (i + d) % l.length = if i + d < l.length then i + d else i + d - l.length := by
      split
      · rw [Nat.mod_eq_of_lt (by assumption)]
      · rw [show i + d = (i + d - l.length) + l.length by omega, Nat.add_mod_right, Nat.mod_eq_of_lt (by omega)]; omega
    have m2 : (i + 1) % l.length = if i + 1 < l.length then i + 1 else 0 := by
      split
      · rw [Nat.mod_eq_of_lt (by assumption)]
      · rw [show i + 1 = l.length by omega, Nat.mod_self]
    have m3 : (k + 1) % l.length = if k + 1 < l.length then k + 1 else 0 := by
      split
      · rw [Nat.mod_eq_of_lt (by assumption)]
      · rw [show k + 1 = l.length by omega, Nat.mod_self]
    rw [m2, m3]; rw [m1] at hm
    split at hm <;> split <;> split <;> omega
  have l1 : (runP l i k).length = d + 1 := by rw [e1, fpt_len (by omega)]
  by_cases h : AdjP l.length i k
  · refine .inl ⟨h, ?_⟩
    rw [hc, if_pos]
    rcases hadj.1 h with h | h | h
    · rw [l1]; omega
    · rw [l1]; omega
    · rw [e2 (by omega), spt_len (by omega), hr]; omega
  · refine .inr ⟨h, d, ?_⟩
    have hn : ¬ (d = 0 ∨ d = 1 ∨ d + 1 = l.length) := fun x => h (hadj.2 x)
    have hd2 : 2 ≤ d := by omega
    refine ⟨hd2, by omega, hm, ?_⟩
    rw [hc, if_neg (by rw [l1, e2 (by omega), spt_len (by omega), hr]; omega), e1, e2 (by omega)]
end Pln
