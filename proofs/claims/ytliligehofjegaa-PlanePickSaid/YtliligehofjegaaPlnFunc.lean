/- The contracts of leftOf, of slices.IndexFunc and slices.ContainsFunc at places. -/
import Derived.Test.YtliligehofjegaaPlnPos
namespace Go.Proofs.Ytliligehofjegaa
open Go.RowKit Go.Shelf Pln

theorem leftOf_w (a b : Pt) (w : World) :
    Calls Try.prog 50 #[ev a b] w fun e w' => e = .returned (.func (.func 71) #[] #[.pointer (some ⟨w.heap.size, 0, none⟩)]) ∧
      w' = w.alloc (.cells #[.int .i64 a.1, .int .i64 a.2, .int .i64 b.1, .int .i64 b.2] 71) := by
  unfold ev
  go_enter Try.func50, Try.ntmps50
  go_wp2
  go_ret
  exact ⟨rfl, rfl⟩
/-- An edge in memory. -/
structure EdgeIn (A : World) (B : Nat) (a b : Pt) : Prop where
  c0 : A.cell? ⟨B, 0, none⟩ = some (.int .i64 a.1)
  c1 : A.cell? ⟨B, 1, none⟩ = some (.int .i64 a.2)
  c2 : A.cell? ⟨B, 2, none⟩ = some (.int .i64 b.1)
  c3 : A.cell? ⟨B, 3, none⟩ = some (.int .i64 b.2)
theorem EdgeIn.via {A A' : World} {B : Nat} {a b : Pt} (h : EdgeIn A B a b) (hB : Below A.heap.size A A') : EdgeIn A' B a b := ⟨keptBelow hB h.c0, keptBelow hB h.c1, keptBelow hB h.c2, keptBelow hB h.c3⟩
theorem EdgeIn.new (w : World) (a b : Pt) : EdgeIn (w.alloc (.cells #[.int .i64 a.1, .int .i64 a.2, .int .i64 b.1, .int .i64 b.2] 71)) w.heap.size a b := ⟨cell_rowN w _ _ 0 rfl, cell_rowN w _ _ 1 rfl, cell_rowN w _ _ 2 rfl, cell_rowN w _ _ 3 rfl⟩
theorem EdgeIn.of_heap {A : World} {B : Nat} {a b : Pt} (h : A.heap[B]? = some (.cells #[.int .i64 a.1, .int .i64 a.2, .int .i64 b.1, .int .i64 b.2] 71 (0, 0))) : EdgeIn A B a b := ⟨cell_heap h rfl, cell_heap h rfl, cell_heap h rfl, cell_heap h rfl⟩
set_option maxRecDepth 100000 in
set_option maxHeartbeats 2000000 in
theorem left1_w (a b c : Pt) (B : Nat) (ha : Sml a) (hb : Sml b) (hc : Sml c) (w : World) (h : EdgeIn w B a b) :
    Calls Try.prog 71 #[pv c, .pointer (some ⟨B, 0, none⟩)] w fun e w' => e = .returned (.bool (decide (0 < turn a b c))) ∧ Below w.heap.size w w' := by
  have ht := fun w => turn_w a b c ha hb hc w
  unfold ev at ht
  unfold pv at ht ⊢
  have e0 := cellA (.cells #[.int .i64 c.1, .int .i64 c.2] 26) h.c0
  have e1 := cellA (.cells #[.int .i64 c.1, .int .i64 c.2] 26) h.c1
  have e2 := cellA (.cells #[.int .i64 c.1, .int .i64 c.2] 26) h.c2
  have e3 := cellA (.cells #[.int .i64 c.1, .int .i64 c.2] 26) h.c3
  generalize turn a b c = t at *
  have HT := Lib.hid ht
  clear ht h
  go_enter Try.func71, Try.ntmps71
  go_wp2_with (go_at_call 69; (with_reducible refine (HT.out _).mono ?_); rintro e u3 ⟨rfl, hB3⟩)
  go_ret
  exact ⟨rfl, belowStep (alloc_below _ _) hB3⟩
/-- The first index from k on, of n. -/
def idxP (b : Nat → Bool) : Nat → Nat → Int
  | 0, _ => -1
  | n + 1, k => if b k = true then k else idxP b n (k + 1)
theorem idxP_bd (b : Nat → Bool) : ∀ n k, -1 ≤ idxP b n k ∧ idxP b n k < k + n
  | 0, k => by unfold idxP; omega
  | n + 1, k => by
    unfold idxP
    split
    · omega
    · have := idxP_bd b n (k + 1); push_cast; omega
theorem idxP_neg (b : Nat → Bool) : ∀ n k, idxP b n k = -1 ↔ ∀ j, k ≤ j → j < k + n → b j = false
  | 0, k => by simp [idxP]; omega
  | n + 1, k => by
    unfold idxP
    split
    · rename_i h
      constructor
      · intro h2; omega
      · intro h2; rw [h2 k (by omega) (by omega)] at h; exact Bool.noConfusion h
    · rename_i h
      rw [idxP_neg b n (k + 1)]
      constructor
      · intro h2 j hj1 hj2
        by_cases e : j = k
        · subst e; simpa using h
        · exact h2 j (by omega) (by omega)
      · exact fun h2 j hj1 hj2 => h2 j (by omega) (by omega)
set_option maxRecDepth 100000 in
set_option maxHeartbeats 2000000 in
theorem index_w (l : List Pt) (hl : l.length ≤ 1000) (b : Nat → Bool) (g : Nat) (lb : Array Value) (eg : ∀ args w, (callFunc g args).run Try.prog w = .ok (.enter g args) w) (v : Value) (w : World) (hv : PtsAt w v l)
    (hf : ∀ k, k < l.length → ∀ w1, Below w.heap.size w w1 → Calls Try.prog g (#[pv (vx l k)] ++ lb) w1 fun e w' => e = .returned (.bool (b k)) ∧ Below w1.heap.size w1 w') :
    Calls Try.prog 73 #[v, .func (.func g) #[] lb] w fun e w' => e = .returned (.int .i64 (idxP b l.length 0)) ∧ Below w.heap.size w w' := by
  have HV := Lib.hid hv
  obtain ⟨⟨a, c, rfl, _, _, _⟩, _⟩ := hv
  obtain ⟨m, hm⟩ : ∃ m, m = l.length := ⟨_, rfl⟩
  have HM := Lib.hid hm
  have HF := Lib.hid hf
  have hmb : (m : Int) ≤ 1000 := by omega
  rw [← hm] at HV ⊢
  clear hm hf
  go_enter Try.func73, Try.ntmps73
  go_wp2_with fail
  go_loopw [5, 8] (fun _ i wr => ∃ k : Nat, k ≤ m ∧ i = .int .i64 k ∧ idxP b m 0 = idxP b (m - k) k ∧ Below w.heap.size w wr) (fun _ i _ => m - (intOf i).toNat)
  case atStart => exact ⟨0, by omega, rfl, rfl, Below.refl _ _⟩
  case round =>
    obtain ⟨k, hk, rfl, hi, hB⟩ := hrel
    have HI := Lib.hid hi
    clear hi
    by_cases hlt : k < m
    · have hlt' : (k : Int) < m := by omega
      have hkl : k < l.length := by rw [← HM.out]; exact hlt
      have hv2 := HV.out.via hB
      obtain ⟨⟨a', c', he, _, _, hin⟩, _⟩ := hv2
      rw [← HM.out] at he
      cases he
      obtain ⟨g', o, rfl, c0, c1⟩ := hin.get hkl
      have hc := HF.out k hkl wr hB
      clear hin
      have HC := Lib.hid hc
      have HS : Hid (idxP b (m - k) k = if b k = true then (k : Int) else idxP b (m - (k + 1)) (k + 1)) := by
        have e : m - k = (m - (k + 1)) + 1 := by omega
        rw [e]; exact Lib.hid rfl
      clear hc
      unfold pv at HC
      generalize vx l k = p at *
      obtain ⟨p1, p2⟩ := p
      dsimp only at c0 c1
      by_cases hbk : b k = true
      · rw [hbk] at HC
        rw [hbk, if_pos rfl] at HS
        clear hbk
        go_wp2_with ((with_reducible refine HC.out.mono ?_); rintro e u3 ⟨rfl, hB3⟩)
        go_ret
        exact ⟨ret_int (by rw [HI.out, HS.out]), belowStep hB hB3⟩
      · have hbk' : b k = false := by simpa using hbk
        rw [hbk'] at HC
        rw [hbk', if_neg (by simp)] at HS
        clear hbk hbk'
        go_wp2_with ((with_reducible refine HC.out.mono ?_); rintro e u3 ⟨rfl, hB3⟩)
        go_roundw
        case rel => exact ⟨k + 1, by omega, by go_num, by rw [HI.out, HS.out], belowStep hB hB3⟩
        case measure => simp [intOf]; omega
    · obtain rfl : k = m := by omega
      have HE : Hid (idxP b (k - k) k = -1) := by rw [Nat.sub_self]; exact Lib.hid rfl
      go_wp2_with fail
      go_ret
      exact ⟨ret_int (by rw [HI.out, HE.out]), hB⟩
set_option maxHeartbeats 1000000 in
theorem contains_w (l : List Pt) (hl : l.length ≤ 1000) (b : Nat → Bool) (g : Nat) (lb : Array Value) (eg : ∀ args w, (callFunc g args).run Try.prog w = .ok (.enter g args) w) (v : Value) (w : World) (hv : PtsAt w v l)
    (hf : ∀ k, k < l.length → ∀ w1, Below w.heap.size w w1 → Calls Try.prog g (#[pv (vx l k)] ++ lb) w1 fun e w' => e = .returned (.bool (b k)) ∧ Below w1.heap.size w1 w') :
    Calls Try.prog 75 #[v, .func (.func g) #[] lb] w fun e w' => e = .returned (.bool (decide (0 ≤ idxP b l.length 0))) ∧ Below w.heap.size w w' := by
  have hc := index_w l hl b g lb eg v w hv hf
  have hb := idxP_bd b l.length 0
  generalize idxP b l.length 0 = i at *
  have HC := Lib.hid hc
  clear hc hf hv eg
  go_enter Try.func75, Try.ntmps75
  go_wp2_with (go_at_call 73; (with_reducible refine HC.out.mono ?_); rintro e u3 ⟨rfl, hB3⟩)
  go_ret
  exact ⟨rfl, hB3⟩
/-- Whether a corner is to the left of an edge. -/
theorem any_left (l : List Pt) (a b : Pt) : decide (0 ≤ idxP (fun k => decide (0 < turn a b (vx l k))) l.length 0) = l.any fun c => decide (0 < turn a b c) := by
  rw [Bool.eq_iff_iff, decide_eq_true_eq, List.any_eq_true]
  have hb := idxP_bd (fun k => decide (0 < turn a b (vx l k))) l.length 0
  have hn := idxP_neg (fun k => decide (0 < turn a b (vx l k))) l.length 0
  constructor
  · intro h
    rcases Classical.em (∃ x ∈ l, decide (0 < turn a b x) = true) with h2 | h2
    · exact h2
    · have : idxP (fun k => decide (0 < turn a b (vx l k))) l.length 0 = -1 := hn.2 fun j _ hj => by
        have hm : vx l j ∈ l := vx_mem (by omega)
        simp only [decide_eq_false_iff_not]
        intro h3; exact h2 ⟨_, hm, by simpa using h3⟩
      omega
  · rintro ⟨x, hx, h⟩
    obtain ⟨j, hj, rfl⟩ := mem_vx hx
    rcases Int.lt_or_le (idxP (fun k => decide (0 < turn a b (vx l k))) l.length 0) 0 with h2 | h2
    · have := hn.1 (by omega) j (by omega) (by omega)
      rw [h] at this; exact Bool.noConfusion this
    · exact h2
end Go.Proofs.Ytliligehofjegaa
