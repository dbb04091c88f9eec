/- Several texts of layers 7 and 8, one behind the other: PlnFunc, PlnRow, PlnCat, PlnConcat, PlnDel, PlnRun, PlnRefA. -/
import Derived.Laws.OwnMore
import Derived.Laws.AppendOwn
import Derived.Lib.AppendZerosOnto
import Derived.Laws.CopyRow
import Derived.Test.YtcamncipkofgkaaDoorUM1
/- PlnFunc: The contracts of leftOf, of slices.IndexFunc and slices.ContainsFunc at places. -/
namespace Go.Proofs.YtcamncipkofgkaaDoor
open Go.RowKit Go.Shelf Pln

theorem leftOf_w (a b : Pt) (w : World) :
    Calls Tryd.prog 75 #[ev a b] w fun e w' => e = .returned (.func (.func 101) #[] #[.pointer (some ⟨w.heap.size, 0, none⟩)]) ∧
      w' = w.alloc (.cells #[.int .i64 a.1, .int .i64 a.2, .int .i64 b.1, .int .i64 b.2] 113) := by
  unfold ev
  go_enter Tryd.func75, Tryd.ntmps75
  go_wp2
  go_ret
  exact ⟨rfl, rfl⟩
/-- An edge in memory. -/
structure EdgeIn (A : World) (B : Nat) (a b : Pt) : Prop where
  c0 : A.cell? ⟨B, 0, none⟩ = some (.int .i64 a.1)
  c1 : A.cell? ⟨B, 1, none⟩ = some (.int .i64 a.2)
  c2 : A.cell? ⟨B, 2, none⟩ = some (.int .i64 b.1)
  c3 : A.cell? ⟨B, 3, none⟩ = some (.int .i64 b.2)
theorem EdgeIn.via {A A' : World} {B : Nat} {a b : Pt} (h : EdgeIn A B a b) (hB : Below A.heap.size A A') : EdgeIn A' B a b := ⟨keptBelow hB h.c0, keptBelow hB h.c1, keptBelow hB h.c2, keptBelow hB h.c3⟩
theorem EdgeIn.new (w : World) (a b : Pt) : EdgeIn (w.alloc (.cells #[.int .i64 a.1, .int .i64 a.2, .int .i64 b.1, .int .i64 b.2] 113)) w.heap.size a b := ⟨cell_rowN w _ _ 0 rfl, cell_rowN w _ _ 1 rfl, cell_rowN w _ _ 2 rfl, cell_rowN w _ _ 3 rfl⟩
theorem EdgeIn.of_heap {A : World} {B : Nat} {a b : Pt} (h : A.heap[B]? = some (.cells #[.int .i64 a.1, .int .i64 a.2, .int .i64 b.1, .int .i64 b.2] 113 (0, 0))) : EdgeIn A B a b := ⟨cell_heap h rfl, cell_heap h rfl, cell_heap h rfl, cell_heap h rfl⟩
set_option maxRecDepth 100000 in
set_option maxHeartbeats 2000000 in
theorem left1_w (a b c : Pt) (B : Nat) (ha : Sml a) (hb : Sml b) (hc : Sml c) (w : World) (h : EdgeIn w B a b) :
    Calls Tryd.prog 101 #[pv c, .pointer (some ⟨B, 0, none⟩)] w fun e w' => e = .returned (.bool (decide (0 < turn a b c))) ∧ Below w.heap.size w w' := by
  have ht := fun w => turn_w a b c ha hb hc w
  unfold ev at ht
  unfold pv at ht ⊢
  have e0 := cellA (.cells #[.int .i64 c.1, .int .i64 c.2] 38) h.c0
  have e1 := cellA (.cells #[.int .i64 c.1, .int .i64 c.2] 38) h.c1
  have e2 := cellA (.cells #[.int .i64 c.1, .int .i64 c.2] 38) h.c2
  have e3 := cellA (.cells #[.int .i64 c.1, .int .i64 c.2] 38) h.c3
  generalize turn a b c = t at *
  have HT := Lib.hid ht
  clear ht h
  go_enter Tryd.func101, Tryd.ntmps101
  go_wp2_with (go_at_call 97; (with_reducible refine (HT.out _).mono ?_); rintro e u3 ⟨rfl, hB3⟩)
  go_ret
  exact ⟨rfl, belowStep (alloc_below _ _) hB3⟩
/-- The first index from k on, of n. -/
def idxP (b : Nat → Bool) : Nat → Nat → Int
  | 0, _ => -1
  | n + 1, k => if b k = true then k else idxP b n (k + 1)
theorem idxP_bd (b : Nat → Bool) : ∀ n k, -1 ≤ idxP b n k ∧ idxP b n k < k + n
  | 0, k => by unfold idxP; omega
  | n + 1, k => by
    unfold idxP
    split
    · omega
    · have := idxP_bd b n (k + 1); push_cast; omega
theorem idxP_neg (b : Nat → Bool) : ∀ n k, idxP b n k = -1 ↔ ∀ j, k ≤ j → j < k + n → b j = false
  | 0, k => by simp [idxP]; omega
  | n + 1, k => by
    unfold idxP
    split
    · rename_i h
      constructor
      · intro h2; omega
      · intro h2; rw [h2 k (by omega) (by omega)] at h; exact Bool.noConfusion h
    · rename_i h
      rw [idxP_neg b n (k + 1)]
      constructor
      · intro h2 j hj1 hj2
        by_cases e : j = k
        · subst e; simpa using h
        · exact h2 j (by omega) (by omega)
      · exact fun h2 j hj1 hj2 => h2 j (by omega) (by omega)
set_option maxRecDepth 100000 in
set_option maxHeartbeats 2000000 in
theorem index_w (l : List Pt) (hl : l.length ≤ 1000) (b : Nat → Bool) (g : Nat) (lb : Array Value) (eg : ∀ args w, (callFunc g args).run Tryd.prog w = .ok (.enter g args) w) (v : Value) (w : World) (hv : PtsAt w v l)
    (hf : ∀ k, k < l.length → ∀ w1, Below w.heap.size w w1 → Calls Tryd.prog g (#[pv (vx l k)] ++ lb) w1 fun e w' => e = .returned (.bool (b k)) ∧ Below w1.heap.size w1 w') :
    Calls Tryd.prog 103 #[v, .func (.func g) #[] lb] w fun e w' => e = .returned (.int .i64 (idxP b l.length 0)) ∧ Below w.heap.size w w' := by
  have HV := Lib.hid hv
  obtain ⟨⟨a, c, rfl, _, _, _⟩, _⟩ := hv
  obtain ⟨m, hm⟩ : ∃ m, m = l.length := ⟨_, rfl⟩
  have HM := Lib.hid hm
  have HF := Lib.hid hf
  have hmb : (m : Int) ≤ 1000 := by omega
  rw [← hm] at HV ⊢
  clear hm hf
  go_enter Tryd.func103, Tryd.ntmps103
  go_wp2_with fail
  go_loopw [5, 8] (fun _ i wr => ∃ k : Nat, k ≤ m ∧ i = .int .i64 k ∧ idxP b m 0 = idxP b (m - k) k ∧ Below w.heap.size w wr) (fun _ i _ => m - (intOf i).toNat)
  case atStart => exact ⟨0, by omega, rfl, rfl, Below.refl _ _⟩
  case round =>
    obtain ⟨k, hk, rfl, hi, hB⟩ := hrel
    have HI := Lib.hid hi
    clear hi
    by_cases hlt : k < m
    · have hlt' : (k : Int) < m := by omega
      have hkl : k < l.length := by rw [← HM.out]; exact hlt
      have hv2 := HV.out.via hB
      obtain ⟨⟨a', c', he, _, _, hin⟩, _⟩ := hv2
      rw [← HM.out] at he
      cases he
      obtain ⟨g', o, rfl, c0, c1⟩ := hin.get hkl
      have hc := HF.out k hkl wr hB
      clear hin
      have HC := Lib.hid hc
      have HS : Hid (idxP b (m - k) k = if b k = true then (k : Int) else idxP b (m - (k + 1)) (k + 1)) := by
        have e : m - k = (m - (k + 1)) + 1 := by omega
        rw [e]; exact Lib.hid rfl
      clear hc
      unfold pv at HC
      generalize vx l k = p at *
      obtain ⟨p1, p2⟩ := p
      dsimp only at c0 c1
      by_cases hbk : b k = true
      · rw [hbk] at HC
        rw [hbk, if_pos rfl] at HS
        clear hbk
        go_wp2_with ((with_reducible refine HC.out.mono ?_); rintro e u3 ⟨rfl, hB3⟩)
        go_ret
        exact ⟨ret_int (by rw [HI.out, HS.out]), belowStep hB hB3⟩
      · have hbk' : b k = false := by simpa using hbk
        rw [hbk'] at HC
        rw [hbk', if_neg (by simp)] at HS
        clear hbk hbk'
        go_wp2_with ((with_reducible refine HC.out.mono ?_); rintro e u3 ⟨rfl, hB3⟩)
        go_roundw
        case rel => exact ⟨k + 1, by omega, by go_num, by rw [HI.out, HS.out], belowStep hB hB3⟩
        case measure => simp [intOf]; omega
    · obtain rfl : k = m := by omega
      have HE : Hid (idxP b (k - k) k = -1) := by rw [Nat.sub_self]; exact Lib.hid rfl
      go_wp2_with fail
      go_ret
      exact ⟨ret_int (by rw [HI.out, HE.out]), hB⟩
set_option maxHeartbeats 1000000 in
theorem contains_w (l : List Pt) (hl : l.length ≤ 1000) (b : Nat → Bool) (g : Nat) (lb : Array Value) (eg : ∀ args w, (callFunc g args).run Tryd.prog w = .ok (.enter g args) w) (v : Value) (w : World) (hv : PtsAt w v l)
    (hf : ∀ k, k < l.length → ∀ w1, Below w.heap.size w w1 → Calls Tryd.prog g (#[pv (vx l k)] ++ lb) w1 fun e w' => e = .returned (.bool (b k)) ∧ Below w1.heap.size w1 w') :
    Calls Tryd.prog 105 #[v, .func (.func g) #[] lb] w fun e w' => e = .returned (.bool (decide (0 ≤ idxP b l.length 0))) ∧ Below w.heap.size w w' := by
  have hc := index_w l hl b g lb eg v w hv hf
  have hb := idxP_bd b l.length 0
  generalize idxP b l.length 0 = i at *
  have HC := Lib.hid hc
  clear hc hf hv eg
  go_enter Tryd.func105, Tryd.ntmps105
  go_wp2_with (go_at_call 103; (with_reducible refine HC.out.mono ?_); rintro e u3 ⟨rfl, hB3⟩)
  go_ret
  exact ⟨rfl, hB3⟩
/-- Whether a corner is to the left of an edge. -/
theorem any_left (l : List Pt) (a b : Pt) : decide (0 ≤ idxP (fun k => decide (0 < turn a b (vx l k))) l.length 0) = l.any fun c => decide (0 < turn a b c) := by
  rw [Bool.eq_iff_iff, decide_eq_true_eq, List.any_eq_true]
  have hb := idxP_bd (fun k => decide (0 < turn a b (vx l k))) l.length 0
  have hn := idxP_neg (fun k => decide (0 < turn a b (vx l k))) l.length 0
  constructor
  · intro h
    rcases Classical.em (∃ x ∈ l, decide (0 < turn a b x) = true) with h2 | h2
    · exact h2
    · have : idxP (fun k => decide (0 < turn a b (vx l k))) l.length 0 = -1 := hn.2 fun j _ hj => by
        have hm : vx l j ∈ l := vx_mem (by omega)
        simp only [decide_eq_false_iff_not]
        intro h3; exact h2 ⟨_, hm, by simpa using h3⟩
      omega
  · rintro ⟨x, hx, h⟩
    obtain ⟨j, hj, rfl⟩ := mem_vx hx
    rcases Int.lt_or_le (idxP (fun k => decide (0 < turn a b (vx l k))) l.length 0) 0 with h2 | h2
    · have := hn.1 (by omega) j (by omega) (by omega)
      rw [h] at this; exact Bool.noConfusion this
    · exact h2
end Go.Proofs.YtcamncipkofgkaaDoor
/- PlnRow: Rows of places that a call has made itself; the contract of changed. -/
namespace Go.Proofs.YtcamncipkofgkaaDoor
open Go.RowKit Go.Shelf Pln

/-- The cells of a list of places. -/
def cellsP : List Pt → List Value
  | [] => []
  | p :: l => .int .i64 p.1 :: .int .i64 p.2 :: cellsP l
theorem cellsP_len : ∀ l : List Pt, (cellsP l).length = l.length * 2
  | [] => rfl
  | _ :: l => by simp [cellsP, cellsP_len l]; omega
theorem cellsP_app : ∀ a b : List Pt, cellsP (a ++ b) = cellsP a ++ cellsP b
  | [], _ => rfl
  | _ :: a, b => by simp [cellsP, cellsP_app a b]
theorem cellsP_get : ∀ (l : List Pt) (j : Nat), j < l.length → (cellsP l)[j * 2]? = some (.int .i64 (vx l j).1) ∧ (cellsP l)[j * 2 + 1]? = some (.int .i64 (vx l j).2)
  | [], j, h => by simp at h
  | p :: l, 0, _ => ⟨rfl, rfl⟩
  | p :: l, j + 1, h => by
    have := cellsP_get l j (by simpa using h)
    have e : vx (p :: l) (j + 1) = vx l j := rfl
    rw [e, show (j + 1) * 2 = j * 2 + 1 + 1 by omega]
    exact this
theorem cellsP_one (l : List Pt) : ∀ u ∈ cellsP l, u.oneCell' = true := by
  induction l with
  | nil => intro u h; simp [cellsP] at h
  | cons p l ih =>
    intro u h
    simp only [cellsP, List.mem_cons] at h
    rcases h with rfl | rfl | h
    · rfl
    · rfl
    · exact ih u h
/-- Cells at even places and those behind them. -/
def Pairs (xs : List Value) (l : List Pt) (k : Nat) : Prop := ∀ j, j < k → xs[j * 2]? = some (.int .i64 (vx l j).1) ∧ xs[j * 2 + 1]? = some (.int .i64 (vx l j).2)
theorem Pairs.step {xs : List Value} {l : List Pt} {k : Nat} (h : Pairs xs l k) (hk : k * 2 + 1 < xs.length) : Pairs ((xs.set (k * 2) (.int .i64 (vx l k).1)).set (k * 2 + 1) (.int .i64 (vx l k).2)) l (k + 1) := by
  intro j hj
  by_cases e : j = k
  · subst e
    exact ⟨by rw [List.getElem?_set_ne (by omega), List.getElem?_set_self (by omega)], by rw [List.getElem?_set_self (by simp; omega)]⟩
  · have := h j (by omega)
    exact ⟨by rw [List.getElem?_set_ne (by omega), List.getElem?_set_ne (by omega)]; exact this.1, by rw [List.getElem?_set_ne (by omega), List.getElem?_set_ne (by omega)]; exact this.2⟩
theorem row_at {w : World} {base : Nat} {v : Value} {l : List Pt} {xs : List Value} (h : w.ownsRow base 38 2 v l.length xs) (hp : Pairs xs l l.length) (hok : PtsOk l) : PtsAt w v l := by
  refine ⟨?_, hok⟩
  rcases h.2 with ⟨rfl, h0⟩ | ⟨g, cap, cur, rfl, _, _, hn, hc, _, _⟩
  · exact ⟨none, 0, by rw [h0], by omega, by omega, .inl (List.length_eq_zero_iff.1 h0)⟩
  · have hc' : (cap : Int) ≤ 9223372036854775807 := by unfold maxLen at hc; omega
    refine ⟨some ⟨g, 0, none⟩, cap, rfl, hn, hc', .inr ⟨g, 0, rfl, fun j hj => ?_⟩⟩
    have := hp j hj
    exact ⟨by rw [Nat.zero_add]; exact (h.cellAt (j * 2) (by omega)).trans this.1, by rw [Nat.zero_add]; exact (h.cellAt (j * 2 + 1) (by omega)).trans this.2⟩
theorem owns_at {w : World} {base : Nat} {v : Value} {l : List Pt} (h : w.ownsRow base 38 2 v l.length (cellsP l)) (hok : PtsOk l) : PtsAt w v l :=
  row_at h (fun j hj => cellsP_get l j hj) hok
theorem info_pt : (Tryd.prog.info? 38).map (fun i => (i.zero, i.size, i.bytes)) = some (some (.agg #[.int .i64 0, .int .i64 0]), 2, 16) := by kernel_rfl
theorem own_via {w w' : World} {base : Nat} {e : TypeId} {size : Nat} {v : Value} {n : Nat} {xs : List Value} (h : w.ownsRow base e size v n xs) (hB : Below w.heap.size w w') : w'.ownsRow base e size v n xs := by
  refine ⟨h.1, ?_⟩
  rcases h.2 with h | ⟨g, cap, cur, h1, h2, h3, h4⟩
  · exact .inl h
  · exact .inr ⟨g, cap, cur, h1, h2, heap_below hB h3, h4⟩
theorem row_cells {w w' : World} {base g m k cap : Nat} {e : TypeId} {xs : List Value} (h : w.ownsRow base e 2 (.slice (some ⟨g, 0, none⟩) m cap) m xs) (hB : Below w.heap.size w w') (hk : k * 2 + 1 < xs.length) :
    ∃ x0 x1, w'.cell? ⟨g, k * 2, none⟩ = some x0 ∧ w'.cell? ⟨g, k * 2 + 1, none⟩ = some x1 ∧ w'.frozen? ⟨g, k * 2, none⟩ = false ∧ w'.frozen? ⟨g, k * 2 + 1, none⟩ = false := by
  have h6 := own_via h hB
  have hl := h.1
  exact ⟨xs[k * 2], xs[k * 2 + 1], (h6.cellAt (k * 2) (by omega)).trans (List.getElem?_eq_getElem (by omega)), (h6.cellAt (k * 2 + 1) (by omega)).trans (List.getElem?_eq_getElem hk), h6.frozenAt _, h6.frozenAt _⟩
theorem vx_map {l : List Pt} (f : Pt → Pt) {k : Nat} (h : k < l.length) : vx (l.map f) k = f (vx l k) := by
  rw [vx_eq (by simpa using h), vx_eq h]; simp
set_option maxRecDepth 100000 in
set_option maxHeartbeats 4000000 in
theorem changed_w (l : List Pt) (hl : l.length ≤ 100) (f : Pt → Pt) (g : Nat) (lb : Array Value) (eg : ∀ args w, (callFunc g args).run Tryd.prog w = .ok (.enter g args) w) (v : Value) (w : World) (hv : PtsAt w v l)
    (hf : ∀ k, k < l.length → ∀ w1, Below w.heap.size w w1 → Calls Tryd.prog g (#[pv (vx l k)] ++ lb) w1 fun e w' => e = .returned (pv (f (vx l k))) ∧ Below w1.heap.size w1 w') (hok : PtsOk (l.map f)) :
    Calls Tryd.prog 69 #[v, .func (.func g) #[] lb] w fun e w' => ∃ r, e = .returned r ∧ PtsAt w' r (l.map f) ∧ Below w.heap.size w w' := by
  have HV := Lib.hid hv
  obtain ⟨⟨a, c, rfl, _, _, _⟩, _⟩ := hv
  obtain ⟨m, hm⟩ : ∃ m, m = l.length := ⟨_, rfl⟩
  have HM := Lib.hid hm
  have HF := Lib.hid hf
  have HOK := Lib.hid hok
  have hmb : (m : Int) ≤ 100 := by omega
  rw [← hm] at HV ⊢
  clear hm hf hok
  obtain ⟨i0, hi, hz0, hz1, hz2⟩ := info_parts info_pt
  obtain ⟨w1, hmk, hown, hgr⟩ := run_make_full (P := Tryd.prog) w w.heap.size 25 38 i0 _ 2 Tryd.underlying25 hi hz0 hz1 .i64 .i64 m (by rw [hz2]; omega) (by unfold maxLen; omega) (Nat.le_refl _)
  have hB1 : Below w.heap.size w w1 := (Below.refl _ w).grown hgr (Nat.le_refl _) (fun k e => by cases e)
  clear hi hz0 hz1 hz2 hgr
  have HO := Lib.hid hown
  have HB1 := Lib.hid hB1
  clear hown hB1
  go_enter Tryd.func69, Tryd.ntmps69
  go_wp2_with fail
  go_loopw [13] (fun i wr => ∃ (k : Nat) (xs : List Value), k ≤ m ∧ i = .int .i64 k ∧ wr.ownsRow w.heap.size 38 2 (.slice (some ⟨w.heap.size, 0, none⟩) m m) m xs ∧ Pairs xs (l.map f) k ∧ Below w.heap.size w wr) (fun i _ => m - (intOf i).toNat)
  case atStart => exact ⟨0, _, by omega, rfl, HO.out, fun j hj => by omega, HB1.out⟩
  case round =>
    obtain ⟨k, xs, hk, rfl, hown, hpr, hB⟩ := hrel
    by_cases hlt : k < m
    · have hlt' : (k : Int) < m := by omega
      have hkl : k < l.length := by rw [← HM.out]; exact hlt
      have hv2 := HV.out.via hB
      obtain ⟨⟨a', c', he, _, _, hin⟩, _⟩ := hv2
      rw [← HM.out] at he
      cases he
      obtain ⟨g', o, rfl, c0, c1⟩ := hin.get hkl
      have hc := fun w2 (hB2 : Below w.heap.size w w2) => HF.out k hkl w2 hB2
      have hmp := vx_map f hkl
      have hx2 : k * 2 + 1 < xs.length := by rw [hown.1]; omega
      have hB5 := belowStep hB (alloc_below wr (.cells #[.int .i64 (vx l k).1, .int .i64 (vx l k).2] 38))
      have ho5 := own_via hown (alloc_below wr (.cells #[.int .i64 (vx l k).1, .int .i64 (vx l k).2] 38))
      have hst := hpr.step hx2
      rw [hmp] at hst
      have HC := Lib.hid (hc _ hB5)
      have HST := Lib.hid hst
      have HB5 := Lib.hid hB5
      have HO5 := Lib.hid ho5
      have HX2 := Lib.hid hx2
      clear hin hc hmp hx2 hB5 ho5 hst hown hpr hB
      unfold pv at HC
      generalize f (vx l k) = q at *
      generalize vx l k = p at *
      obtain ⟨p1, p2⟩ := p
      obtain ⟨q1, q2⟩ := q
      dsimp only at c0 c1 HC HB5 HO5 HST
      go_wp2_with ((with_reducible refine HC.out.mono ?_); rintro e u3 ⟨rfl, hB3⟩; obtain ⟨x0, x1, y0, y1, z0, z1⟩ := row_cells HO5.out hB3 HX2.out)
      go_roundw
      case rel =>
        refine ⟨k + 1, _, by omega, by go_num, (((own_via HO5.out hB3).stored _ _).1.stored _ _).1, HST.out, ?_⟩
        exact ((belowStep HB5.out hB3).setCell (p := ⟨w.heap.size, k * 2, none⟩) (by simp) _).setCell (p := ⟨w.heap.size, k * 2 + 1, none⟩) (by simp) _
      case measure => simp [intOf]; omega
    · obtain rfl : k = m := by omega
      have hr : PtsAt wr (.slice (some ⟨w.heap.size, 0, none⟩) k k) (l.map f) := by
        have e : (l.map f).length = k := by rw [List.length_map]; exact HM.out.symm
        exact row_at (by rw [e]; exact hown) (by rw [e]; exact hpr) HOK.out
      have HR := Lib.hid hr
      have HBB := Lib.hid hB
      clear hown hpr hB hr
      go_wp2_with fail
      go_ret
      exact ⟨_, rfl, HR.out, HBB.out⟩
end Go.Proofs.YtcamncipkofgkaaDoor
/- PlnCat: The contracts of slices.Clone, slices.Grow and slices.Concat at places. -/
namespace Go.Proofs.YtcamncipkofgkaaDoor
open Go.RowKit Go.Shelf Pln

theorem addr_add (g o j : Nat) : (⟨g, o, none⟩ : Addr).add j = ⟨g, o + j, none⟩ := by
  unfold Addr.add
  split
  · rename_i h; subst h; rfl
  · rfl
theorem news_in {w : World} {g o : Nat} {l : List Pt} (h : ∀ j, j < l.length → w.cell? ⟨g, o + j * 2, none⟩ = some (.int .i64 (vx l j).1) ∧ w.cell? ⟨g, o + j * 2 + 1, none⟩ = some (.int .i64 (vx l j).2)) :
    ∀ j u, (cellsP l)[j]? = some u → w.cell? ((⟨g, o, none⟩ : Addr).add j) = some u := by
  intro j u hu
  rw [addr_add]
  have hj : j < l.length * 2 := by
    have := (List.getElem?_eq_some_iff.1 hu).1; rw [cellsP_len] at this; exact this
  rcases Nat.mod_two_eq_zero_or_one j with e | e
  · have e2 : j = j / 2 * 2 := by omega
    have hk : j / 2 < l.length := by omega
    have h1 := (cellsP_get l (j / 2) hk).1
    rw [← e2, hu] at h1
    have h2 := (h (j / 2) hk).1
    rw [← e2] at h2
    rw [h2, h1]
  · have e2 : j = j / 2 * 2 + 1 := by omega
    have hk : j / 2 < l.length := by omega
    have h1 := (cellsP_get l (j / 2) hk).2
    rw [← e2, hu] at h1
    have h2 := (h (j / 2) hk).2
    rw [Nat.add_assoc, ← e2] at h2
    rw [h2, h1]
set_option maxHeartbeats 1000000 in
set_option maxRecDepth 100000 in
theorem clone_w (l : List Pt) (hl : l.length ≤ 1000) (hn : 0 < l.length) (v : Value) (w : World) (hv : PtsAt w v l) :
    Calls Tryd.prog 96 #[v] w fun e w' => ∃ r, e = .returned r ∧ PtsAt w' r l ∧ Below w.heap.size w w' := by
  obtain ⟨⟨a, c, rfl, _, _, hin⟩, hok⟩ := hv
  rcases hin with h | ⟨g, o, rfl, hcells⟩
  · subst h; simp at hn
  have HN := Lib.hid (news_in hcells)
  have HOK := Lib.hid hok
  have HL := Lib.hid (cellsP_len l)
  have HE := Lib.hid (fun (w' : World) (v' : Value) (h : w'.ownsRow w.heap.size 38 2 v' l.length (cellsP l)) => owns_at h hok)
  obtain ⟨m, hm⟩ : ∃ m, m = l.length := ⟨_, rfl⟩
  rw [← hm] at hl hn HL HE ⊢
  have hmb : (m : Int) ≤ 1000 := by omega
  have h1 : (0 + m) ≤ maxLen := by unfold maxLen; omega
  have h2 : (0 + m) * 16 ≤ 140737488355328 := by omega
  have H1 := Lib.hid h1
  have H2 := Lib.hid h2
  obtain ⟨i0, hi, hz0, hz1, hz2⟩ := info_parts info_pt
  have HI := Lib.hid hi
  have HZ0 := Lib.hid hz0
  have HZ1 := Lib.hid hz1
  have HZ2 := Lib.hid hz2
  clear hcells hok hm hi hz0 hz1 hz2 h1 h2
  have hq : ∀ w, (binOp .eql 25 (.slice (some ⟨g, o, none⟩) m c) (.slice none 0 0)).run Tryd.prog w = .ok (.bool false) w := fun w => by kernel_rfl
  go_enter Tryd.func96, Tryd.ntmps96
  go_wp2_with (at_builtin; refine wpList_append_own _ rfl _ _ 25 rfl w.heap.size 38 i0 (.agg #[.int .i64 0, .int .i64 0]) 2 16 Tryd.underlying25 HI.out HZ0.out HZ1.out HZ2.out rfl (by decide) _ 0 [] rfl ?own ⟨g, o, none⟩ m c (cellsP l) rfl HL.out ?news (cellsP_one l) H1.out H2.out ?size ?_)
  case own => exact World.ownsRow_made w #[] 0 (Nat.le_refl _) (by unfold maxLen; omega) rfl
  case news =>
    intro j u hu
    have := HN.out j u hu
    rw [addr_add] at this ⊢
    exact cellA _ this
  case size => simp
  intro v' w1 hown hgrow _
  have hB := (alloc_below w (.cells #[] 38)).grown hgrow (by simp) (fun k e => by cases e; exact Nat.le_refl _)
  have HB := Lib.hid hB
  have HOW := Lib.hid hown
  clear hB hown hgrow
  go_wp2_with fail
  go_ret
  exact ⟨_, rfl, HE.out _ _ HOW.out, HB.out⟩
set_option maxRecDepth 100000 in
set_option maxHeartbeats 1000000 in
theorem grow_w (n : Nat) (h0 : 0 < n) (hn : n ≤ 1000) (w : World) :
    Calls Tryd.prog 104 #[.slice none 0 0, .int .i64 n] w fun e w' => ∃ v, e = .returned v ∧ w'.ownsRow w.heap.size 38 2 v 0 [] ∧ Below w.heap.size w w' := by
  obtain ⟨i0, hi, hz0, hz1, hz2⟩ := info_parts info_pt
  have hr := fun ty => Lib.run_append_nil_zeros (P := Tryd.prog) w 25 3 ty 38 i0 (.agg #[.int .i64 0, .int .i64 0]) .i64 .i64 Tryd.underlying25 Tryd.underlying3 hi hz0 n h0 (by rw [hz1]; omega) (by omega) (by rw [hz2]; omega)
  have hG := grownCap_ge w n 0 38
  have hGm := grownCap_le_maxLen w n 0 38 (by unfold maxLen; omega)
  obtain ⟨G, hGG⟩ : ∃ G, G = grownCap w n 0 38 := ⟨_, rfl⟩
  rw [← hGG] at hr hG hGm
  obtain ⟨arr, harr⟩ : ∃ arr, arr = Builtin.zeroCells (Value.agg #[.int .i64 0, .int .i64 0]).cells n ++ Builtin.zeroCells (Value.agg #[.int .i64 0, .int .i64 0]).cells (G - n) := ⟨_, rfl⟩
  have hsz : arr.size = G * 2 := by rw [harr]; simp [Builtin.zeroCells, Value.cells]; omega
  rw [← harr] at hr
  have hown : (w.drew.alloc (.cells arr 38)).ownsRow w.heap.size 38 2 (.slice (some ⟨w.heap.size, 0, none⟩) 0 G) 0 [] := World.ownsRow_made w.drew arr G (Nat.le_refl _) hGm hsz
  have hB : Below w.heap.size w (w.drew.alloc (.cells arr 38)) := (Below.refl _ w).drew.alloc (Nat.le_refl _) _
  have hnb : (n : Int) ≤ 1000 := by omega
  have hn0 : 0 < (n : Int) := by omega
  have hn1 : ¬ ((n : Int) < 0) := by omega
  unfold maxLen at hGm
  have HO := Lib.hid hown
  have HB := Lib.hid hB
  clear hi hz0 hz1 hz2 hGG harr hsz hown hB
  go_enter Tryd.func104, Tryd.ntmps104
  go_wp2_with (at_builtin; refine Lib.wpList_append_run _ rfl _ _ _ _ rfl _ _ rfl rfl _ _ (hr _) ?_)
  go_ret
  exact ⟨_, rfl, HO.out, HB.out⟩
end Go.Proofs.YtcamncipkofgkaaDoor
/- PlnConcat: The contract of slices.Concat at two lists of places. -/
namespace Go.Proofs.YtcamncipkofgkaaDoor
open Go.RowKit Go.Shelf Pln

/-- A list of places that is not empty: where it lies. -/
theorem at_some {w : World} {v : Value} {l : List Pt} (h : PtsAt w v l) (hn : 0 < l.length) : ∃ g o c, v = .slice (some ⟨g, o, none⟩) l.length c ∧ l.length ≤ c ∧ (c : Int) ≤ 9223372036854775807 ∧ ∀ j, j < l.length → w.cell? ⟨g, o + j * 2, none⟩ = some (.int .i64 (vx l j).1) ∧ w.cell? ⟨g, o + j * 2 + 1, none⟩ = some (.int .i64 (vx l j).2) := by
  obtain ⟨⟨a, c, rfl, h1, h2, hin⟩, _⟩ := h
  rcases hin with h | ⟨g, o, rfl, h3⟩
  · subst h; simp at hn
  · exact ⟨g, o, c, rfl, h1, h2, h3⟩
/-- An append of places to a row of one's own: what the law asks. -/
theorem both_ok {la lb : List Pt} (ha : PtsOk la) (hb : PtsOk lb) : PtsOk (la ++ lb) := fun r hr => by
  rcases List.mem_append.1 hr with h | h
  · exact ha r h
  · exact hb r h
theorem app_ok {n m : Nat} (h : n + m ≤ 1000) : n + m ≤ maxLen ∧ (n + m) * 16 ≤ 140737488355328 := by unfold maxLen; omega
set_option maxRecDepth 100000 in
set_option maxHeartbeats 2000000 in
theorem concat_w (la lb : List Pt) (ha : 0 < la.length) (hb : 0 < lb.length) (ha2 : la.length ≤ 100) (hb2 : lb.length ≤ 100) (va vb : Value) (G c : Nat) (w : World) (hva : PtsAt w va la) (hvb : PtsAt w vb lb)
    (c0 : w.cell? ⟨G, 0, none⟩ = some va) (c1 : w.cell? ⟨G, 1, none⟩ = some vb) :
    Calls Tryd.prog 85 #[.slice (some ⟨G, 0, none⟩) 2 c] w fun e w' => ∃ r, e = .returned r ∧ w'.ownsRow w.heap.size 38 2 r (la ++ lb).length (cellsP (la ++ lb)) ∧ Below w.heap.size w w' := by
  have HVA := Lib.hid hva
  have HVB := Lib.hid hvb
  obtain ⟨ga, oa, ca, rfl, _, _, _⟩ := at_some hva ha
  obtain ⟨gb, ob, cb, rfl, _, _, _⟩ := at_some hvb hb
  have HE : Hid ((la ++ lb).length = la.length + lb.length) := Lib.hid List.length_append
  have HLA := Lib.hid (cellsP_len la)
  have HLB := Lib.hid (cellsP_len lb)
  obtain ⟨na, hna⟩ : ∃ na, na = la.length := ⟨_, rfl⟩
  obtain ⟨nb, hnb⟩ : ∃ nb, nb = lb.length := ⟨_, rfl⟩
  rw [← hna] at HVA HLA HE ha ha2 c0
  rw [← hnb] at HVB HLB HE hb hb2 c1
  have HNA := Lib.hid hna
  have HNB := Lib.hid hnb
  have a1 : (na : Int) ≤ 100 := by omega
  have b1 : (nb : Int) ≤ 100 := by omega
  have hg := grow_w (na + nb) (by omega) (by omega)
  have hcast : ((na + nb : Nat) : Int) = (na : Int) + (nb : Int) := by omega
  rw [hcast] at hg
  have HG := Lib.hid hg
  have HA1 := Lib.hid (app_ok (n := 0) (m := na) (by omega))
  have HB1 := Lib.hid (app_ok (n := na) (m := nb) (by omega))
  obtain ⟨i0, hi, hz0, hz1, hz2⟩ := info_parts info_pt
  have HI := Lib.hid hi
  have HZ0 := Lib.hid hz0
  have HZ1 := Lib.hid hz1
  have HZ2 := Lib.hid hz2
  have C0 := Lib.hid c0
  have C1 := Lib.hid c1
  clear hva hvb hna hnb hg hcast hi hz0 hz1 hz2
  go_enter Tryd.func85, Tryd.ntmps85
  clear c0 c1
  go_wp2_with fail
  go_loop [3, 11] (fun s i => (s = .int .i64 0 ∧ i = .int .i64 0) ∨ (s = .int .i64 na ∧ i = .int .i64 1) ∨ (s = .int .i64 ((na : Int) + nb) ∧ i = .int .i64 2)) (fun _ i => 2 - (intOf i).toNat)
  case atStart => exact .inl ⟨rfl, rfl⟩
  case round =>
    rcases hrel with ⟨rfl, rfl⟩ | ⟨rfl, rfl⟩ | ⟨rfl, rfl⟩
    · have c0 := C0.out
      go_wp2_with fail
      go_round
      case rel => exact .inr (.inl ⟨by go_num, by go_num⟩)
      case measure => simp [intOf]
    · have c1 := C1.out
      go_wp2_with fail
      go_round
      case rel => exact .inr (.inr ⟨by go_num, by go_num⟩)
      case measure => simp [intOf]
    · go_wp2_with (go_at_call 104; (with_reducible refine (HG.out _).mono ?_); rintro e w1 ⟨v0, rfl, hown, hB⟩)
      have HO := Lib.hid hown
      have HBB := Lib.hid hB
      clear hown hB
      go_loopw [6, 27] (fun v i wr => Below w.heap.size w wr ∧ ((i = .int .i64 0 ∧ wr.ownsRow w.heap.size 38 2 v 0 []) ∨ (i = .int .i64 1 ∧ wr.ownsRow w.heap.size 38 2 v na (cellsP la)) ∨ (i = .int .i64 2 ∧ wr.ownsRow w.heap.size 38 2 v (na + nb) (cellsP la ++ cellsP lb)))) (fun _ i _ => 2 - (intOf i).toNat)
      case atStart => exact ⟨HBB.out, .inl ⟨rfl, HO.out⟩⟩
      case round =>
        obtain ⟨hB, hrel⟩ := hrel
        obtain ⟨v, hv⟩ : ∃ v, v = u6 := ⟨_, rfl⟩
        rw [← hv] at hrel ⊢
        clear hv
        have HBZ := Lib.hid hB.size
        have HBW := Lib.hid hB
        rcases hrel with ⟨rfl, hown⟩ | ⟨rfl, hown⟩ | ⟨rfl, hown⟩
        · have HOW := Lib.hid hown
          have hva := HVA.out.via hB
          rw [HNA.out] at hva
          obtain ⟨g, o, c', he, _, _, hcells⟩ := at_some hva (by have := HNA.out; omega)
          cases he
          have HN := Lib.hid (news_in hcells)
          have c0 := keptBelow hB C0.out
          clear hva hown hB hcells
          go_wp2_with (at_builtin; refine wpList_append_own _ rfl _ _ 25 rfl w.heap.size 38 i0 (.agg #[.int .i64 0, .int .i64 0]) 2 16 Tryd.underlying25 HI.out HZ0.out HZ1.out HZ2.out rfl (by decide) v 0 [] rfl HOW.out ⟨ga, oa, none⟩ na ca (cellsP la) rfl HLA.out (HN.out) (cellsP_one la) HA1.out.1 HA1.out.2 HBZ.out ?_)
          intro v' w5 hown5 hgrow5 _
          have HB5 := Lib.hid (HBW.out.grown hgrow5 HBZ.out (fun k e => (HOW.out.lt k e).1))
          have HO5 := Lib.hid hown5
          clear hown5 hgrow5
          go_wp2_with fail
          go_roundw
          case rel => exact ⟨HB5.out, .inr (.inl ⟨by go_num, HO5.out⟩)⟩
          case measure => simp [intOf]
        · have HOW := Lib.hid hown
          have hvb := HVB.out.via hB
          rw [HNB.out] at hvb
          obtain ⟨g, o, c', he, _, _, hcells⟩ := at_some hvb (by have := HNB.out; omega)
          cases he
          have HN := Lib.hid (news_in hcells)
          have c1 := keptBelow hB C1.out
          clear hvb hown hB hcells
          go_wp2_with (at_builtin; refine wpList_append_own _ rfl _ _ 25 rfl w.heap.size 38 i0 (.agg #[.int .i64 0, .int .i64 0]) 2 16 Tryd.underlying25 HI.out HZ0.out HZ1.out HZ2.out rfl (by decide) v na (cellsP la) rfl HOW.out ⟨gb, ob, none⟩ nb cb (cellsP lb) rfl HLB.out (HN.out) (cellsP_one lb) HB1.out.1 HB1.out.2 HBZ.out ?_)
          intro v' w5 hown5 hgrow5 _
          have HB5 := Lib.hid (HBW.out.grown hgrow5 HBZ.out (fun k e => (HOW.out.lt k e).1))
          have HO5 := Lib.hid hown5
          clear hown5 hgrow5
          go_wp2_with fail
          go_roundw
          case rel => exact ⟨HB5.out, .inr (.inr ⟨by go_num, HO5.out⟩)⟩
          case measure => simp [intOf]
        · have HR : Hid (wr.ownsRow w.heap.size 38 2 v (la ++ lb).length (cellsP (la ++ lb))) := Lib.hid (by rw [cellsP_app, HE.out]; exact hown)
          clear hown hB
          go_wp2_with fail
          go_ret
          exact ⟨_, rfl, HR.out, HBW.out⟩
end Go.Proofs.YtcamncipkofgkaaDoor
/- PlnDel: The contract of slices.DeleteFunc at places: a row of one's own, rewritten in place. -/
namespace Go.Proofs.YtcamncipkofgkaaDoor
open Go.RowKit Go.Shelf Pln

theorem cellsP_set : ∀ (l : List Pt) (i : Nat) (p : Pt), ((cellsP l).set (i * 2) (.int .i64 p.1)).set (i * 2 + 1) (.int .i64 p.2) = cellsP (l.set i p)
  | [], _, _ => rfl
  | q :: l, 0, p => rfl
  | q :: l, i + 1, p => by
    rw [show (i + 1) * 2 = i * 2 + 1 + 1 by omega]
    simp only [cellsP, List.set_cons_succ]
    rw [← cellsP_set l i p]
theorem cellsP_take : ∀ (l : List Pt) (i : Nat), (cellsP l).take (i * 2) = cellsP (l.take i)
  | [], i => by simp [cellsP]
  | q :: l, 0 => by simp [cellsP]
  | q :: l, i + 1 => by
    rw [show (i + 1) * 2 = i * 2 + 1 + 1 by omega]
    simp only [cellsP, List.take_succ_cons]
    rw [cellsP_take l i]
/-- The end of a row of one's own, cleared. -/
theorem clear_own {W : World} {base g n cap i c : Nat} {xs : List Value} (h : W.ownsRow base 38 2 (.slice (some ⟨g, 0, none⟩) n cap) n xs) (hi : i < n) :
    ∃ W', (∀ ty, (Builtin.clear_ #[25] ty #[.slice (some ⟨g, i * 2, none⟩) (n - i) c]).run Tryd.prog W = .ok (.tuple #[]) W') ∧ W'.ownsRow base 38 2 (.slice (some ⟨g, 0, none⟩) i cap) i (xs.take (i * 2)) ∧ W.grownBy W' (some g) := by
  rcases h.2 with ⟨h', _⟩ | ⟨g', cap', cur, h', hb, hg, hnc, hcm, hcs, htake⟩
  · simp at h'
  · simp only [Value.slice.injEq, Option.some.injEq, Addr.mk.injEq, and_true, true_and] at h'
    obtain ⟨rfl, rfl⟩ := h'
    have hv : ∀ w, (zeroValue 38).run Tryd.prog w = .ok (.agg #[.int .i64 0, .int .i64 0]) w := fun w => by kernel_rfl
    obtain ⟨zs, hzs⟩ : ∃ zs, zs = (Builtin.zeroCells (Value.agg #[.int .i64 0, .int .i64 0]).cells (n - i)).toList := ⟨_, rfl⟩
    have hl : zs.length = (n - i) * 2 := by rw [hzs]; simp [Builtin.zeroCells, Value.cells]
    have h1 : ∀ v ∈ zs, v.oneCell' = true := by
      intro v hv
      rw [hzs] at hv
      simp only [Builtin.zeroCells, Value.cells] at hv
      obtain ⟨k, hk, rfl⟩ := List.getElem_of_mem hv
      simp at hk ⊢
      rcases Nat.mod_two_eq_zero_or_one k with e | e <;> rw [e] <;> rfl
    have hst := run_storeCells_at Tryd.prog g (i * 2) 38 zs 0 cur W hg (by rw [hl, hcs]; omega) h1
    simp only [Nat.add_zero] at hst
    refine ⟨W.setRow g (cur.toList.take (i * 2) ++ zs ++ cur.toList.drop (i * 2 + zs.length)).toArray, fun ty => ?_, ⟨?_, .inr ⟨g, cap, _, rfl, hb, setRow_heap W g cur _ _ _ hg, by omega, hcm, ?_, ?_⟩⟩, ⟨rfl, rfl, rfl, by simp, fun k _ hk => setRow_other W g k _ (fun e => hk (by simp [e]))⟩⟩
    · obtain ⟨m, hm⟩ : ∃ m, n - i = m + 1 := ⟨n - i - 1, by omega⟩
      rw [hm] at hzs ⊢
      simp [Builtin.clear_, run_underlying Tryd.underlying25, hv, ← hzs, hst]
    · rw [List.length_take, h.1]; omega
    · simp only [List.size_toArray, List.length_append, List.length_take, List.length_drop, Array.length_toList]; omega
    · rw [List.append_assoc, List.take_left' (by rw [List.length_take, Array.length_toList, hcs]; omega), ← htake, List.take_take]
      congr 1; omega
/-- What stands in the row while it is rewritten: i places are kept, j have been looked at. -/
structure DelI (keep : Pt → Bool) (l ys : List Pt) (i j : Nat) : Prop where
  len : ys.length = l.length
  ij : i < j
  jn : j ≤ l.length
  done : ys.take i = (l.take j).filter keep
  rest : ys.drop j = l.drop j
theorem DelI.same {keep : Pt → Bool} {l ys : List Pt} {i j : Nat} (h : DelI keep l ys i j) : vx ys j = vx l j := by
  have h1 : ys[j]? = l[j]? := by
    have := congrArg (fun z => z[0]?) h.rest
    simpa using this
  unfold vx; rw [List.getD_eq_getElem?_getD, List.getD_eq_getElem?_getD, h1]
theorem take_vx {l : List Pt} {j : Nat} (hj : j < l.length) : l.take (j + 1) = l.take j ++ [vx l j] := by
  rw [List.take_succ_eq_append_getElem hj, vx_eq hj]
theorem DelI.drop_ {keep : Pt → Bool} {l ys : List Pt} {i j : Nat} (h : DelI keep l ys i j) (hj : j < l.length) (hk : keep (vx l j) = false) : DelI keep l ys i (j + 1) := by
  have := h.ij
  refine ⟨h.len, by omega, by omega, ?_, ?_⟩
  · rw [take_vx hj, List.filter_append, h.done]; simp [hk]
  · have := congrArg (fun z => z.drop 1) h.rest; simpa [List.drop_drop, Nat.add_comm] using this
theorem DelI.keep_ {keep : Pt → Bool} {l ys : List Pt} {i j : Nat} (h : DelI keep l ys i j) (hj : j < l.length) (hk : keep (vx l j) = true) : DelI keep l (ys.set i (vx l j)) (i + 1) (j + 1) := by
  have hij := h.ij
  have hl := h.len
  refine ⟨by rw [List.length_set]; exact hl, by omega, by omega, ?_, ?_⟩
  · rw [take_vx hj, List.filter_append, ← h.done]
    have e : List.filter keep [vx l j] = [vx l j] := by simp [hk]
    rw [e, List.take_succ_eq_append_getElem (by rw [List.length_set]; omega), List.getElem_set_self, List.take_set_of_le (Nat.le_refl _)]
  · rw [List.drop_set_of_lt (by omega)]
    have := congrArg (fun z => z.drop 1) h.rest; simpa [List.drop_drop, Nat.add_comm] using this
theorem DelI.start {keep : Pt → Bool} {l : List Pt} {i : Nat} (hi : i < l.length) (h1 : ∀ j, j < i → keep (vx l j) = true) (h2 : keep (vx l i) = false) : DelI keep l l i (i + 1) := by
  refine ⟨rfl, by omega, by omega, ?_, rfl⟩
  rw [take_vx hi, List.filter_append]
  have e : List.filter keep (l.take i) = l.take i := List.filter_eq_self.2 fun p hp => by
    obtain ⟨j, hj, rfl⟩ := mem_vx hp
    rw [List.length_take] at hj
    have : vx (l.take i) j = vx l j := by unfold vx; rw [List.getD_eq_getElem?_getD, List.getD_eq_getElem?_getD, List.getElem?_take_of_lt (by omega)]
    rw [this]; exact h1 j (by omega)
  rw [e]; simp [h2]
theorem DelI.all {keep : Pt → Bool} {l ys : List Pt} {i : Nat} (h : DelI keep l ys i l.length) : ys.take i = l.filter keep := by
  have := h.done; rwa [List.take_of_length_le (Nat.le_refl _)] at this
theorem idxP_at (b : Nat → Bool) : ∀ n k, idxP b n k = -1 ∨ ∃ i : Nat, k ≤ i ∧ i < k + n ∧ idxP b n k = i ∧ b i = true ∧ ∀ j, k ≤ j → j < i → b j = false
  | 0, k => .inl rfl
  | n + 1, k => by
    unfold idxP
    split
    · rename_i h; exact .inr ⟨k, by omega, by omega, rfl, h, fun j h1 h2 => by omega⟩
    · rename_i h
      rcases idxP_at b n (k + 1) with h2 | ⟨i, h2, h3, h4, h5, h6⟩
      · exact .inl h2
      · refine .inr ⟨i, by omega, by omega, h4, h5, fun j h7 h8 => ?_⟩
        by_cases e : j = k
        · subst e; simpa using h
        · exact h6 j (by omega) h8
theorem own_slice {w : World} {base : Nat} {e : TypeId} {size : Nat} {v : Value} {n : Nat} {xs : List Value} (h : w.ownsRow base e size v n xs) (hn : 0 < n) : ∃ g cap, v = .slice (some ⟨g, 0, none⟩) n cap ∧ n ≤ cap ∧ (cap : Int) ≤ 9223372036854775807 ∧ base ≤ g := by
  rcases h.2 with ⟨_, h0⟩ | ⟨g, cap, cur, h1, h2, _, h4, h5, _⟩
  · omega
  · exact ⟨g, cap, h1, h4, by unfold maxLen at h5; omega, h2⟩
set_option maxRecDepth 100000 in
set_option maxHeartbeats 4000000 in
theorem delete_w (w0 : World) (l : List Pt) (hl : l.length ≤ 200) (hn : 0 < l.length) (d : Pt → Bool) (g : Nat) (lb : Array Value) (eg : ∀ args w, (callFunc g args).run Tryd.prog w = .ok (.enter g args) w) (v : Value) (w : World)
    (hB0 : Below w0.heap.size w0 w) (hown : w.ownsRow w0.heap.size 38 2 v l.length (cellsP l)) (hok : PtsOk l)
    (hf : ∀ q ∈ l, ∀ w1, Below w0.heap.size w0 w1 → Calls Tryd.prog g (#[pv q] ++ lb) w1 fun e w' => e = .returned (.bool (d q)) ∧ Below w1.heap.size w1 w') :
    Calls Tryd.prog 84 #[v, .func (.func g) #[] lb] w fun e w' => ∃ r, e = .returned r ∧ PtsAt w' r (l.filter fun c => !d c) ∧ Below w0.heap.size w0 w' := by
  have HX := Lib.hid (index_w l (by omega) (fun k => d (vx l k)) g lb eg v w (owns_at hown hok) (fun k hk w1 hB => hf _ (vx_mem hk) w1 (hB0.trans (below_of_le hB hB0.size))))
  have HF := Lib.hid hf
  have HOK : Hid (PtsOk (l.filter fun c => !d c)) := Lib.hid (fun r hr => hok r (List.mem_filter.1 hr).1)
  have hi := idxP_at (fun k => d (vx l k)) l.length 0
  obtain ⟨G, cap, rfl, h1, h2, h3⟩ := own_slice hown hn
  obtain ⟨n, hnn⟩ : ∃ n, n = l.length := ⟨_, rfl⟩
  have HN := Lib.hid hnn
  have HO := Lib.hid hown
  have HB0 := Lib.hid hB0
  rw [← hnn] at HO HX hi hl hn h1 ⊢
  have hnb : (n : Int) ≤ 200 := by omega
  clear hf hnn hown hB0
  rcases hi with hi | ⟨i, _, hi2, hi, hi3, hi4⟩
  · have HR : Hid ((l.filter fun c => !d c) = l) := Lib.hid (List.filter_eq_self.2 fun p hp => by
      obtain ⟨j, hj, rfl⟩ := mem_vx hp
      rw [← HN.out] at hj
      rw [(idxP_neg _ n 0).1 hi j (by omega) (by omega)]; rfl)
    rw [hi] at HX
    have HOKL := Lib.hid hok
    clear hi hok
    go_enter Tryd.func84, Tryd.ntmps84
    go_wp2_with (go_at_call 103; (with_reducible refine HX.out.mono ?_); rintro e u3 ⟨rfl, hB3⟩)
    go_ret
    refine ⟨_, rfl, ?_, HB0.out.trans (below_of_le hB3 HB0.out.size)⟩
    rw [HR.out]
    have := HO.out
    rw [HN.out] at this ⊢
    exact (owns_at this HOKL.out).via hB3
  · rw [hi] at HX
    have hst : DelI (fun c => !d c) l l i (i + 1) := DelI.start (by have := HN.out; omega) (fun j hj => by rw [hi4 j (by omega) hj]; rfl) (by rw [hi3]; rfl)
    have HST := Lib.hid hst
    have hin : (i : Int) < n := by omega
    have hm1 : ((i : Int) == -1) = false := by rw [beq_eq_false_iff_ne]; omega
    clear hi hi2 hi3 hi4 hst hok
    go_enter Tryd.func84, Tryd.ntmps84
    go_wp2_with (go_at_call 103; (with_reducible refine HX.out.mono ?_); rintro e u3 ⟨rfl, hB3⟩)
    go_loopw [5, 6] (fun si sj wr => ∃ (i j : Nat) (ys : List Pt), si = .int .i64 i ∧ sj = .int .i64 j ∧ wr.ownsRow w0.heap.size 38 2 (.slice (some ⟨G, 0, none⟩) n cap) n (cellsP ys) ∧ DelI (fun c => !d c) l ys i j ∧ Below w0.heap.size w0 wr) (fun _ sj _ => n - (intOf sj).toNat)
    case atStart => exact ⟨i, i + 1, l, rfl, by go_num, own_via HO.out hB3, HST.out, HB0.out.trans (below_of_le hB3 HB0.out.size)⟩
    case round =>
      clear HST HO hB3 hin
      obtain ⟨i, j, ys, rfl, rfl, hown, hI, hB⟩ := hrel
      have hij := hI.ij
      have hjn := hI.jn
      rw [← HN.out] at hjn
      by_cases hlt : j < n
      · have hlt' : (j : Int) < n := by omega
        have hjl : j < l.length := by rw [← HN.out]; exact hlt
        have hsame := hI.same
        have hys : ys.length = n := by rw [hI.len]; exact HN.out.symm
        have c0 : wr.cell? ⟨G, j * 2, none⟩ = some (.int .i64 (vx ys j).1) := (hown.cellAt (j * 2) (by omega)).trans (cellsP_get ys j (by omega)).1
        have c1 : wr.cell? ⟨G, j * 2 + 1, none⟩ = some (.int .i64 (vx ys j).2) := (hown.cellAt (j * 2 + 1) (by omega)).trans (cellsP_get ys j (by omega)).2
        rw [hsame] at c0 c1
        have hb5 := hB.trans (below_of_le (alloc_below wr (.cells #[.int .i64 (vx l j).1, .int .i64 (vx l j).2] 38)) hB.size)
        have HC := Lib.hid (HF.out (vx l j) (vx_mem hjl) _ hb5)
        have HO5 := Lib.hid (own_via hown (alloc_below wr (.cells #[.int .i64 (vx l j).1, .int .i64 (vx l j).2] 38)))
        have HB5 := Lib.hid hb5
        have HK := Lib.hid (fun (hk : d (vx l j) = false) => hI.keep_ hjl (by rw [hk]; rfl))
        have HD := Lib.hid (fun (hk : d (vx l j) = true) => hI.drop_ hjl (by rw [hk]; rfl))
        have HX2 : Hid (i * 2 + 1 < (cellsP ys).length) := Lib.hid (by rw [cellsP_len]; omega)
        have HCS := Lib.hid (cellsP_set ys i (vx l j))
        unfold pv at HC
        clear hsame hown hI hB hb5
        generalize vx l j = p at *
        obtain ⟨p1, p2⟩ := p
        dsimp only at c0 c1 HC HB5 HO5 HCS
        rcases hdp : d (p1, p2) with _ | _
        · rw [hdp] at HC
          have HK2 := Lib.hid (HK.out hdp)
          clear hdp
          go_wp2_with ((with_reducible refine HC.out.mono ?_); rintro e u5 ⟨rfl, hB6⟩; obtain ⟨x0, x1, y0, y1, z0, z1⟩ := row_cells HO5.out hB6 HX2.out; have e0 := keptBelow hB6 (cell_rowN wr #[.int .i64 p1, .int .i64 p2] 38 0 rfl); have e1 := keptBelow hB6 (cell_rowN wr #[.int .i64 p1, .int .i64 p2] 38 1 rfl))
          go_roundw
          case rel =>
            refine ⟨i + 1, j + 1, _, by go_num, by go_num, ?_, HK2.out, ?_⟩
            · rw [← HCS.out]
              exact (((own_via HO5.out hB6).stored _ _).1.stored _ _).1
            · have hg := (HO5.out.lt G rfl).1
              exact ((HB5.out.trans (below_of_le hB6 HB5.out.size)).setCell (p := ⟨G, i * 2, none⟩) hg _).setCell (p := ⟨G, i * 2 + 1, none⟩) hg _
          case measure => simp [intOf]; omega
        · rw [hdp] at HC
          have HD2 := Lib.hid (HD.out hdp)
          clear hdp
          go_wp2_with ((with_reducible refine HC.out.mono ?_); rintro e u5 ⟨rfl, hB6⟩)
          go_roundw
          case rel => exact ⟨i, j + 1, ys, rfl, by go_num, own_via HO5.out hB6, HD2.out, HB5.out.trans (below_of_le hB6 HB5.out.size)⟩
          case measure => simp [intOf]; omega
      · obtain rfl : j = n := by omega
        have hin : (i : Int) < j := by omega
        obtain ⟨W', hcl, hown2, hgr⟩ := clear_own (c := cap - i) hown hij
        rw [cellsP_take] at hown2
        have hI2 := hI
        rw [HN.out] at hI2
        have hall := hI2.all
        rw [hall] at hown2
        have hlen : (l.filter fun c => !d c).length = i := by rw [← hall, List.length_take, hI.len, ← HN.out]; omega
        have HR := Lib.hid (owns_at (l := l.filter fun c => !d c) (by rw [hlen]; exact hown2) HOK.out)
        have HBZ := Lib.hid (hB.grown hgr hB.size (fun k e => (hown.lt k e).1))
        clear hown hown2 hgr hI hI2 hall hB
        go_wp2
        go_ret
        exact ⟨_, rfl, HR.out, HBZ.out⟩
end Go.Proofs.YtcamncipkofgkaaDoor
/- PlnRun: The contract of run. -/
namespace Go.Proofs.YtcamncipkofgkaaDoor
open Go.RowKit Go.Shelf Pln

theorem vx_drop {l : List Pt} {i j : Nat} : vx (l.drop i) j = vx l (i + j) := by
  unfold vx; rw [List.getD_eq_getElem?_getD, List.getD_eq_getElem?_getD, List.getElem?_drop]
theorem vx_take {l : List Pt} {i j : Nat} (h : j < i) : vx (l.take i) j = vx l j := by
  unfold vx; rw [List.getD_eq_getElem?_getD, List.getD_eq_getElem?_getD, List.getElem?_take_of_lt h]
/-- A part of a slice of places. -/
theorem at_part {w : World} {g o n c : Nat} {l : List Pt} (hok : PtsOk l) (hn : n = l.length) (hc : n ≤ c) (hc2 : (c : Int) ≤ 9223372036854775807) (h : ∀ j, j < l.length → w.cell? ⟨g, o + j * 2, none⟩ = some (.int .i64 (vx l j).1) ∧ w.cell? ⟨g, o + j * 2 + 1, none⟩ = some (.int .i64 (vx l j).2))
    {i k : Nat} (hik : i ≤ k) (hk : k ≤ n) : PtsAt w (.slice (some ⟨g, o + i * 2, none⟩) (k - i) (c - i)) ((l.take k).drop i) := by
  subst hn
  have hlen : ((l.take k).drop i).length = k - i := by rw [List.length_drop, List.length_take]; omega
  refine ⟨⟨some ⟨g, o + i * 2, none⟩, c - i, by rw [hlen], by rw [hlen]; omega, by omega, .inr ⟨g, o + i * 2, rfl, fun j hj => ?_⟩⟩, fun r hr => hok r (List.mem_of_mem_take (List.mem_of_mem_drop hr))⟩
  rw [hlen] at hj
  have := h (i + j) (by omega)
  rw [vx_drop, vx_take (by omega), show o + i * 2 + j * 2 = o + (i + j) * 2 by omega]
  exact this
set_option maxRecDepth 100000 in
set_option maxHeartbeats 2000000 in
theorem run_w (l : List Pt) (hl : l.length ≤ 100) (i k : Nat) (hi : i < l.length) (hk : k < l.length) (v : Value) (w : World) (hv : PtsAt w v l) :
    Calls Tryd.prog 66 #[v, .int .i64 i, .int .i64 k] w fun e w' => ∃ r, e = .returned r ∧ PtsAt w' r (runP l i k) ∧ Below w.heap.size w w' := by
  have hok := hv.ok
  obtain ⟨g, o, c, rfl, hc, hc2, hcells⟩ := at_some hv (by omega)
  obtain ⟨n, hn⟩ : ∃ n, n = l.length := ⟨_, rfl⟩
  rw [← hn] at hc hl hi hk ⊢
  have hnb : (n : Int) ≤ 100 := by omega
  have hcb : (n : Int) ≤ c := by omega
  have hib : (i : Int) < n := by omega
  have hkb : (k : Int) < n := by omega
  by_cases hik : i ≤ k
  · have hpart := fun w1 (hB : Below w.heap.size w w1) => at_part hok hn hc hc2 (fun j hj => ⟨keptBelow hB (hcells j hj).1, keptBelow hB (hcells j hj).2⟩) (i := i) (k := k + 1) (by omega) (by omega)
    have hlen : ((l.take (k + 1)).drop i).length = k + 1 - i := by rw [List.length_drop, List.length_take]; omega
    have HC := Lib.hid (clone_w ((l.take (k + 1)).drop i) (by omega) (by omega) _ w (hpart w (Below.refl _ _)))
    have HR : Hid (runP l i k = (l.take (k + 1)).drop i) := Lib.hid (by unfold runP; rw [if_pos hik])
    have hikb : (i : Int) ≤ k := by omega
    clear hpart hlen hok hcells hn hi hk hik
    go_enter Tryd.func66, Tryd.ntmps66
    go_wp2_with fail
    refine HC.out.mono ?_
    rintro e u3 ⟨r, rfl, hr, hB3⟩
    have HR3 := Lib.hid hr
    clear hr
    go_wp2_with fail
    go_ret
    exact ⟨_, rfl, by rw [HR.out]; exact HR3.out, hB3⟩
  · have hki : k < i := by omega
    have hp1 := fun w1 (hB : Below w.heap.size w w1) => at_part hok hn hc hc2 (fun j hj => ⟨keptBelow hB (hcells j hj).1, keptBelow hB (hcells j hj).2⟩) (i := i) (k := n) (by omega) (by omega)
    have hp2 := fun w1 (hB : Below w.heap.size w w1) => at_part hok hn hc hc2 (fun j hj => ⟨keptBelow hB (hcells j hj).1, keptBelow hB (hcells j hj).2⟩) (i := 0) (k := k + 1) (by omega) (by omega)
    simp only [List.drop_zero, Nat.zero_mul, Nat.add_zero, Nat.sub_zero] at hp2
    have e1 : l.take n = l := List.take_of_length_le (by omega)
    rw [e1] at hp1
    have hl1 : (l.drop i).length = n - i := by rw [List.length_drop]; omega
    have hl2 : (l.take (k + 1)).length = k + 1 := by rw [List.length_take]; omega
    have hok2 : PtsOk (runP l i k) := fun r hr => hok r (by
      unfold runP at hr
      split at hr
      · exact List.mem_of_mem_take (List.mem_of_mem_drop hr)
      · rcases List.mem_append.1 hr with h | h
        · exact List.mem_of_mem_drop h
        · exact List.mem_of_mem_take h)
    have HC := Lib.hid (fun G w1 (hB : Below w.heap.size w w1) c0 c1 => concat_w (l.drop i) (l.take (k + 1)) (by omega) (by omega) (by omega) (by omega) _ _ G 2 w1 (hp1 w1 hB) (hp2 w1 hB) c0 c1)
    have HR : Hid (runP l i k = l.drop i ++ l.take (k + 1)) := Lib.hid (by unfold runP; rw [if_neg hik])
    have HOK := Lib.hid hok2
    have hikb : ¬ ((i : Int) ≤ k) := by omega
    have hik2 : decide ((i : Int) ≤ k) = false := decide_eq_false hikb
    have hk1 : IntKind.i64.wrap ((k : Int) + 1) = (k : Int) + 1 := IntWalk.i64_in _ (by omega)
    have hin : i ≤ n := by omega
    have hci : ¬ c = i := by omega
    have hk0 : 0 ≤ (k : Int) + 1 := by omega
    have hkc : (k : Int) + 1 ≤ c := by omega
    clear hp1 hp2 hl1 hl2 hok hok2 hcells hn hi hk hik e1 hki
    go_enter Tryd.func66, Tryd.ntmps66
    go_wp2_with fail
    refine (wpIn_wide (n := 5)).1 ?_
    have hB0 : Below w.heap.size w w.drew := (Below.refl _ _).drew
    refine wpIn_region_T (fun w' => Below w.drew.heap.size w.drew w') 9 (by kernel_rfl) ?_
    generalize w.drew = wd at *
    refine wpT_tk 0 16 (v := ?_) (Below.refl _ _) rfl rfl (by rfl) (hy := fun w hw => ?_) (h := ?_)
    rotate_left
    · go_simp; with_reducible rfl
    try simp only [Act.put, List.setIfInBounds_toArray, List.set_cons_zero, List.set_cons_succ]
    refine wpT_tk 1 17 (v := ?_) (Below.refl _ _) rfl rfl (by rfl) (hy := fun w hw => ?_) (h := ?_)
    rotate_left
    · go_simp; with_reducible rfl
    try simp only [Act.put, List.setIfInBounds_toArray, List.set_cons_zero, List.set_cons_succ]
    refine wpT_tk 2 18 (v := ?_) (Below.refl _ _) rfl rfl (by rfl) (hy := fun w hw => ?_) (h := ?_)
    rotate_left
    · go_simp; with_reducible rfl
    try simp only [Act.put, List.setIfInBounds_toArray, List.set_cons_zero, List.set_cons_succ]
    refine wpT_tk 3 19 (v := ?_) (Below.refl _ _) rfl rfl (by rfl) (hy := fun w hw => ?_) (h := ?_)
    rotate_left
    · go_simp; with_reducible rfl
    try simp only [Act.put, List.setIfInBounds_toArray, List.set_cons_zero, List.set_cons_succ]
    refine wpT_tk 4 20 (v := ?_) (Below.refl _ _) rfl rfl (by rfl) (hy := fun w hw => ?_) (h := ?_)
    rotate_left
    · go_simp; with_reducible rfl
    try simp only [Act.put, List.setIfInBounds_toArray, List.set_cons_zero, List.set_cons_succ]
    refine wpT_tk 5 21 (v := ?_) (Below.refl _ _) rfl rfl (by rfl) (hy := fun w hw => ?_) (h := ?_)
    rotate_left
    · go_simp; with_reducible rfl
    try simp only [Act.put, List.setIfInBounds_toArray, List.set_cons_zero, List.set_cons_succ]
    refine wpT_tk 6 22 (v := ?_) (Below.refl _ _) rfl rfl (by rfl) (hy := fun w hw => ?_) (h := ?_)
    rotate_left
    · go_simp; with_reducible rfl
    try simp only [Act.put, List.setIfInBounds_toArray, List.set_cons_zero, List.set_cons_succ]
    refine wpT_one 7 rfl rfl (by kernel_rfl) ?_
    go_simp
    have hB1 := alloc_below wd (.cells #[.slice (some ⟨g, o + i * 2, none⟩) (n - i) (c - i), .slice (some ⟨g, o, none⟩) (k + 1) c] 25)
    have hc := HC.out wd.heap.size _ (belowStep hB0 hB1) (cell_rowN wd _ _ 0 rfl) (cell_rowN wd _ _ 1 rfl)
    have HC2 := Lib.hid hc
    clear hc
    refine ⟨hB1, ?_⟩
    refine wpT_one 8 rfl rfl (by kernel_rfl) ?_
    go_simp
    refine ⟨trivial, ?_⟩
    refine (callsIn_wide.2 HC2.out).mono ?_
    rintro e u3 ⟨r, rfl, hr, hB3⟩
    have HR3 := Lib.hid hr
    have hB4 := belowStep hB0 (belowStep hB1 hB3)
    have hB5 := belowStep hB1 hB3
    clear hr
    refine ⟨hB5, ?_⟩
    clear hB5 hB3 hB1
    refine wpT_one 9 rfl rfl (by kernel_rfl) ?_
    go_simp
    refine wpT_done (by kernel_rfl) ?_ _
    go_wp2_with fail
    go_ret
    refine ⟨_, rfl, ?_, hB4⟩
    have := HR3.out
    rw [← HR.out] at this
    exact owns_at this HOK.out
end Go.Proofs.YtcamncipkofgkaaDoor
/- PlnRefA: The contracts of the reference's Turn and far, of pick and at. -/
namespace Go.Proofs.YtcamncipkofgkaaDoor
open Go.RowKit Go.Shelf Pln

set_option maxRecDepth 100000 in
set_option maxHeartbeats 1000000 in
theorem turnR_w (a b c : Pt) (ha : Sml a) (hb : Sml b) (hc : Sml c) (w : World) :
    Calls Tryd.prog 77 #[pv a, pv b, pv c] w fun e w' => e = .returned (.int .i64 (turn a b c)) ∧ Below w.heap.size w w' := by
  obtain ⟨a1, a2⟩ := a; obtain ⟨b1, b2⟩ := b; obtain ⟨c1, c2⟩ := c
  obtain ⟨h1, h2, h3, h4⟩ := ha; obtain ⟨k1, k2, k3, k4⟩ := hb; obtain ⟨j1, j2, j3, j4⟩ := hc
  dsimp only at h1 h2 h3 h4 k1 k2 k3 k4 j1 j2 j3 j4
  obtain ⟨m1, m2⟩ := mul_in (x := b1 - a1) (y := c2 - a2) (m := 81) (by omega) (by omega) (by omega) (by omega)
  obtain ⟨m3, m4⟩ := mul_in (x := b2 - a2) (y := c1 - a1) (m := 81) (by omega) (by omega) (by omega) (by omega)
  unfold pv turn
  dsimp only
  go_enter Tryd.func77, Tryd.ntmps77
  go_wp2
  go_ret
  exact ⟨rfl, (((Below.refl _ _).alloc (Nat.le_refl _) _).alloc (by simp) _).alloc (by simp; omega) _⟩
theorem far_in {a b : Pt} (ha : Sml a) (hb : Sml b) : 0 ≤ far a b ∧ far a b ≤ 13122 := by
  have := ha.x0; have := ha.x1; have := ha.y0; have := ha.y1
  have := hb.x0; have := hb.x1; have := hb.y0; have := hb.y1
  unfold far
  have m1 := mul_in (x := a.1 - b.1) (y := a.1 - b.1) (m := 81) (by omega) (by omega) (by omega) (by omega)
  have m2 := mul_in (x := a.2 - b.2) (y := a.2 - b.2) (m := 81) (by omega) (by omega) (by omega) (by omega)
  have := sq_nonneg (a.1 - b.1); have := sq_nonneg (a.2 - b.2)
  omega
set_option maxRecDepth 100000 in
set_option maxHeartbeats 1000000 in
theorem far_w (a b : Pt) (ha : Sml a) (hb : Sml b) (w : World) :
    Calls Tryd.prog 108 #[pv a, pv b] w fun e w' => e = .returned (.int .i64 (far a b)) ∧ Below w.heap.size w w' := by
  obtain ⟨a1, a2⟩ := a; obtain ⟨b1, b2⟩ := b
  obtain ⟨h1, h2, h3, h4⟩ := ha; obtain ⟨k1, k2, k3, k4⟩ := hb
  dsimp only at h1 h2 h3 h4 k1 k2 k3 k4
  obtain ⟨m1, m2⟩ := mul_in (x := a1 - b1) (y := a1 - b1) (m := 81) (by omega) (by omega) (by omega) (by omega)
  obtain ⟨m3, m4⟩ := mul_in (x := a2 - b2) (y := a2 - b2) (m := 81) (by omega) (by omega) (by omega) (by omega)
  unfold pv far
  dsimp only
  go_enter Tryd.func108, Tryd.ntmps108
  go_wp2
  go_ret
  exact ⟨rfl, ((Below.refl _ _).alloc (Nat.le_refl _) _).alloc (by simp) _⟩
/-- An index out of any integer. -/
def pkN (c n : Int) : Int := if c < 0 then (-(c + 1)).tmod n else c.tmod n
theorem pkN_in {c n : Int} (h : 0 < n) : 0 ≤ pkN c n ∧ pkN c n < n := by
  unfold pkN
  split
  · rw [Int.tmod_eq_emod_of_nonneg (by omega)]; exact ⟨Int.emod_nonneg _ (by omega), Int.emod_lt_of_pos _ h⟩
  · rw [Int.tmod_eq_emod_of_nonneg (by omega)]; exact ⟨Int.emod_nonneg _ (by omega), Int.emod_lt_of_pos _ h⟩
set_option maxRecDepth 100000 in
set_option maxHeartbeats 1000000 in
theorem pickR_w (c n : Int) (hc : I64 c) (hn : 0 < n) (hn2 : n ≤ 1000) (w : World) :
    Calls Tryd.prog 71 #[.int .i64 c, .int .i64 n] w fun e w' => e = .returned (.int .i64 (pkN c n)) ∧ w = w' := by
  obtain ⟨c1, c2⟩ := hc
  by_cases h : c < 0
  · have hp : pkN c n = -((c + 1).tmod n) := by unfold pkN; rw [if_pos h, Int.neg_tmod]
    rw [hp]
    clear hp
    go_enter Tryd.func71, Tryd.ntmps71
    go_wp2
    go_ret
    exact ⟨rfl, rfl⟩
  · have h' : 0 ≤ c := by omega
    have hp : pkN c n = c % n := by unfold pkN; rw [if_neg h, Int.tmod_eq_emod_of_nonneg h']
    rw [hp]
    clear hp
    go_enter Tryd.func71, Tryd.ntmps71
    go_wp2
    go_ret
    exact ⟨rfl, rfl⟩
end Go.Proofs.YtcamncipkofgkaaDoor
