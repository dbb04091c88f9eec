/- Plain mathematics of layer 5: readings without one of them, and with one that is vaguer. -/
import Derived.Test.YtebhalcoemkomaaClkCourse
namespace Putlog

def fewR (rs : List Rd) (j k : Nat) : List Rd := ((List.range k).filter fun i => decide (i ≠ j)).map fun i => rs.getD i default
def vgR (a b : Int) (r : Rd) : Rd := (r.1, max (r.2.1 - a) 0, r.2.2 + b)
def vagR (rs : List Rd) (j : Nat) (a b : Int) (k : Nat) : List Rd := (List.range k).map fun i => if i = j then vgR a b (rs.getD i default) else rs.getD i default
theorem fewR_same (rs : List Rd) (j : Nat) : fewR rs j (j + 1) = fewR rs j j := by simp [fewR, List.range_succ]
theorem fewR_other (rs : List Rd) {j k : Nat} (h : k ≠ j) : fewR rs j (k + 1) = fewR rs j k ++ [rs.getD k default] := by simp [fewR, List.range_succ, h]
theorem vagR_same (rs : List Rd) (j : Nat) (a b : Int) : vagR rs j a b (j + 1) = vagR rs j a b j ++ [vgR a b (rs.getD j default)] := by simp [vagR, List.range_succ]
theorem vagR_other (rs : List Rd) {j k : Nat} (a b : Int) (h : k ≠ j) : vagR rs j a b (k + 1) = vagR rs j a b k ++ [rs.getD k default] := by simp [vagR, List.range_succ, h]
theorem fewR_len (rs : List Rd) (j k : Nat) : (fewR rs j k).length ≤ k := by
  rw [fewR, List.length_map]
  have := List.length_filter_le (fun i => decide (i ≠ j)) (List.range k)
  simpa using this
theorem vagR_len (rs : List Rd) (j : Nat) (a b : Int) (k : Nat) : (vagR rs j a b k).length = k := by simp [vagR]
theorem okR_pair : ∀ {l : List Rd} {e : Int}, okR e l = true → l.Pairwise (fun p q => p.1 < q.1) ∧ ∀ r ∈ l, e < r.1
  | [], _, _ => ⟨List.Pairwise.nil, fun r hr => by simp at hr⟩
  | q :: t, e, h => by
    simp only [okR, Bool.and_eq_true, decide_eq_true_eq] at h
    obtain ⟨⟨⟨⟨⟨h1, h2⟩, h3⟩, h4⟩, h5⟩, h6⟩ := h
    obtain ⟨a, b⟩ := okR_pair h6
    refine ⟨List.Pairwise.cons b a, fun r hr => ?_⟩
    rcases List.mem_cons.1 hr with rfl | hr
    · exact h1
    · have := b r hr; omega
theorem okR_of : ∀ {l : List Rd} {e : Int}, l.Pairwise (fun p q => p.1 < q.1) → (∀ r ∈ l, e < r.1 ∧ r.1 ≤ 10000000 ∧ 0 ≤ r.2.1 ∧ r.2.1 ≤ r.2.2 ∧ r.2.2 ≤ 10000000) → okR e l = true
  | [], _, _, _ => rfl
  | q :: t, e, hp, hb => by
    obtain ⟨h1, h2, h3, h4, h5⟩ := hb q (by simp)
    have hp2 := List.pairwise_cons.1 hp
    have := okR_of (e := q.1) hp2.2 (fun r hr => ⟨hp2.1 r hr, (hb r (by simp [hr])).2⟩)
    simp [okR, h1, h2, h3, h4, h5, this]
theorem range_all (rs : List Rd) : (List.range rs.length).map (fun i => rs.getD i default) = rs := by
  apply List.ext_getElem
  · simp
  · intro i h1 h2
    simp [List.getD_eq_getElem?_getD, h2]
theorem fewR_ok {d s : Int} {rates : List Int} {rs : List Rd} (h : MadeOf d s rates rs) (j : Nat) : validC d (fewR rs j rs.length) = true ∧ Wider rs (fewR rs j rs.length) := by
  obtain ⟨hp, _⟩ := okR_pair h.ok
  have hb := okR_mem (Int.le_refl _) h.ok
  have hsub : (fewR rs j rs.length).Sublist rs := by
    have : (fewR rs j rs.length).Sublist ((List.range rs.length).map fun i => rs.getD i default) := List.Sublist.map _ List.filter_sublist
    rwa [range_all] at this
  refine ⟨validC_iff.2 ⟨h.d0, h.d1, Nat.le_trans hsub.length_le h.few, okR_of (hp.sublist hsub) (fun r hr => hb r (hsub.subset hr))⟩, fun r hr => ⟨r, hsub.subset hr, rfl, Int.le_refl _, Int.le_refl _⟩⟩
theorem vagR_mem {rs : List Rd} {j : Nat} {a b : Int} {r : Rd} (hr : r ∈ vagR rs j a b rs.length) : ∃ q ∈ rs, r = q ∨ r = vgR a b q := by
  obtain ⟨i, hi, rfl⟩ := List.mem_map.1 hr
  have hi2 := List.mem_range.1 hi
  have hm : rs.getD i default ∈ rs := by rw [List.getD_eq_getElem?_getD, List.getElem?_eq_getElem hi2]; exact List.getElem_mem hi2
  by_cases e : i = j
  · exact ⟨_, hm, .inr (by rw [if_pos e])⟩
  · exact ⟨_, hm, .inl (by rw [if_neg e])⟩
theorem vagR_ok {d s a b : Int} {rates : List Int} {rs : List Rd} (h : MadeOf d s rates rs) (hh : ∀ r ∈ rs, r.2.2 ≤ 3049) (j : Nat) (a0 : 0 ≤ a) (b0 : 0 ≤ b) (b1 : b ≤ 100) : validC d (vagR rs j a b rs.length) = true ∧ Wider rs (vagR rs j a b rs.length) := by
  obtain ⟨hp, _⟩ := okR_pair h.ok
  have hb := okR_mem (Int.le_refl _) h.ok
  have hp2 : (vagR rs j a b rs.length).Pairwise (fun p q => p.1 < q.1) := by
    rw [← range_all rs, List.pairwise_map] at hp
    rw [vagR, List.pairwise_map]
    refine hp.imp fun {x y} hxy => ?_
    have e : ∀ i, (if i = j then vgR a b (rs.getD i default) else rs.getD i default).1 = (rs.getD i default).1 := fun i => by split <;> rfl
    rw [e, e]; exact hxy
  refine ⟨validC_iff.2 ⟨h.d0, h.d1, by rw [vagR_len]; exact h.few, okR_of hp2 fun r hr => ?_⟩, fun r hr => ?_⟩
  · obtain ⟨q, hq, rfl | rfl⟩ := vagR_mem hr
    · exact hb r hq
    · have h1 := hb q hq
      have h2 := hh q hq
      unfold vgR; dsimp only
      omega
  · obtain ⟨q, hq, rfl | rfl⟩ := vagR_mem hr
    · exact ⟨r, hq, rfl, Int.le_refl _, Int.le_refl _⟩
    · have h1 := hb q hq
      exact ⟨q, hq, rfl, by unfold vgR; dsimp only; omega, by unfold vgR; dsimp only; omega⟩
end Putlog
