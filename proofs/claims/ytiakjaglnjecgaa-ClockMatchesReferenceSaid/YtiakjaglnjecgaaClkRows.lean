/- Rows of readings that a call owns. -/
import Derived.Laws.OwnMore
import Derived.Test.YtiakjaglnjecgaaClkShown
import Derived.Test.YtiakjaglnjecgaaClkCourse
namespace Go.Proofs.Ytiakjaglnjecgaa
open Go.RowKit Putlog

theorem grown_heap {w w' : World} {row : Option Nat} (hg : w.grownBy w' row) {b : Nat} {o : Obj} (h : w.heap[b]? = some o) (hne : some b ≠ row) : w'.heap[b]? = some o := (hg.block b (Array.getElem?_eq_some_iff.1 h).1 hne).trans h
/-- Readings as cells. -/
def rdC (r : Rd) : List Value := [.int .i64 r.1, .int .i64 r.2.1, .int .i64 r.2.2]
def rvals (l : List Rd) : List Value := l.flatMap rdC
theorem rvals_len : ∀ l : List Rd, (rvals l).length = l.length * 3
  | [] => rfl
  | r :: l => by rw [rvals, List.flatMap_cons, List.length_append, show (l.flatMap rdC).length = l.length * 3 from rvals_len l, List.length_cons]; simp [rdC]; omega
theorem rvals_snoc (l : List Rd) (r : Rd) : rvals (l ++ [r]) = rvals l ++ rdC r := by simp [rvals]
theorem rvals_get : ∀ (l : List Rd) (j : Nat), j < l.length → (rvals l)[j * 3]? = some (.int .i64 (l.getD j default).1) ∧ (rvals l)[j * 3 + 1]? = some (.int .i64 (l.getD j default).2.1) ∧ (rvals l)[j * 3 + 2]? = some (.int .i64 (l.getD j default).2.2)
  | [], j, h => by simp at h
  | r :: l, 0, _ => by simp [rvals, rdC]
  | r :: l, j + 1, h => by
    have ih := rvals_get l j (by simpa using h)
    have e : rvals (r :: l) = rdC r ++ rvals l := rfl
    have l3 : (rdC r).length = 3 := rfl
    rw [e, List.getElem?_append_right (by rw [l3]; omega), List.getElem?_append_right (by rw [l3]; omega), List.getElem?_append_right (by rw [l3]; omega), l3, show (j + 1) * 3 - 3 = j * 3 by omega, show (j + 1) * 3 + 1 - 3 = j * 3 + 1 by omega, show (j + 1) * 3 + 2 - 3 = j * 3 + 2 by omega]
    simpa using ih
theorem owns_rds {w : World} {B : Nat} {t : TypeId} {v : Value} {l : List Rd} (h : w.ownsRow B t 3 v l.length (rvals l)) : ∃ a c, v = .slice a l.length c ∧ l.length ≤ c ∧ (c : Int) ≤ 9223372036854775807 ∧ RdsIn w a l ∧ ∀ g o, a = some ⟨g, o, none⟩ → B ≤ g := by
  have h0 := h
  obtain ⟨_, hv | ⟨g, cap, cur, rfl, hg, hh, h1, h2, h3, h4⟩⟩ := h
  · obtain ⟨h1, h2⟩ := hv
    exact ⟨none, 0, by rw [h1, h2], by omega, by omega, .inl (List.eq_nil_of_length_eq_zero h2), fun g o e => by cases e⟩
  · refine ⟨some ⟨g, 0, none⟩, cap, rfl, h1, by unfold maxLen at h2; omega, .inr ⟨g, 0, rfl, fun j hj => ?_⟩, fun g' o e => by cases e; exact hg⟩
    obtain ⟨e0, e1, e2⟩ := rvals_get l j hj
    rw [Nat.zero_add]
    exact ⟨(h0.cellAt (j * 3) (by omega)).trans e0, (h0.cellAt (j * 3 + 1) (by omega)).trans e1, (h0.cellAt (j * 3 + 2) (by omega)).trans e2⟩
theorem owns_at {w : World} {B : Nat} {t : TypeId} {v : Value} {l : List Rd} (h : w.ownsRow B t 3 v l.length (rvals l)) (hok : RdsOk l) : RdsAt w v l := by
  obtain ⟨a, c, h1, h2, h3, h4, _⟩ := owns_rds h
  exact ⟨⟨a, c, h1, h2, h3, h4⟩, hok⟩
theorem news_rd (W : World) (r : Rd) (t : TypeId) : ∀ j u, (rdC r)[j]? = some u → (W.alloc (.cells #[.int .i64 r.1, .int .i64 r.2.1, .int .i64 r.2.2] t)).cell? ((⟨W.heap.size, 0, none⟩ : Addr).add j) = some u
  | 0, u, h => by
    simp [rdC] at h; subst h
    exact (cell_of_row _ W.heap.size 0 _ t (0, 0) (heap_alloc_new W _)).trans rfl
  | 1, u, h => by
    simp [rdC] at h; subst h
    exact (cell_of_row _ W.heap.size 1 _ t (0, 0) (heap_alloc_new W _)).trans rfl
  | 2, u, h => by
    simp [rdC] at h; subst h
    exact (cell_of_row _ W.heap.size 2 _ t (0, 0) (heap_alloc_new W _)).trans rfl
  | j + 3, u, h => by simp [rdC] at h
theorem one_rd (r : Rd) : ∀ u ∈ rdC r, u.oneCell' = true := by intro u hu; simp [rdC] at hu; rcases hu with rfl | rfl | rfl <;> rfl
theorem info_rd : (Try.prog.info? 46).map (fun i => (i.zero, i.size, i.bytes)) = some (some (.agg #[.int .i64 0, .int .i64 0, .int .i64 0]), 3, 24) := by kernel_rfl
theorem info_clock : (Try.prog.info? 24).map (·.size) = some 2 := by kernel_rfl
/-- How many of the numbers drawn are met before a second, and at it. -/
def metB (T : Int) (r : Rd) : Bool := decide (pkN r.1 3000 < T)
def metE (T : Int) (r : Rd) : Bool := decide (pkN r.1 3000 = T)
theorem met_next (T : Int) : ∀ l : List Rd, l.countP (metB (T + 1)) = l.countP (metB T) + l.countP (metE T)
  | [] => rfl
  | r :: l => by
    rw [List.countP_cons, List.countP_cons, List.countP_cons, met_next T l]
    unfold metB metE
    simp only [decide_eq_true_eq]
    split <;> split <;> split <;> omega
theorem met_none : ∀ l : List Rd, l.countP (metB 0) = 0
  | [] => rfl
  | r :: l => by
    rw [List.countP_cons, met_none l]
    have := (pkN_bounds r.1 (n := 3000) (by decide)).1
    simp [metB]; omega
theorem met_take {l : List Rd} {k : Nat} (h : k < l.length) (T : Int) : (l.take (k + 1)).countP (metE T) = (l.take k).countP (metE T) + if pkN (l.getD k default).1 3000 = T then 1 else 0 := by
  rw [rds_take h, List.countP_append, List.countP_cons, List.countP_nil]
  simp [metE]
end Go.Proofs.Ytiakjaglnjecgaa
