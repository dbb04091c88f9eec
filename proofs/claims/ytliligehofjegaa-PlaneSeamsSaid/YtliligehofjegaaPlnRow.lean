/- Rows of places that a call has made itself; the contract of changed. -/
import Derived.Laws.OwnMore
import Derived.Test.YtliligehofjegaaPlnFunc
namespace Go.Proofs.Ytliligehofjegaa
open Go.RowKit Go.Shelf Pln

/-- The cells of a list of places. -/
def cellsP : List Pt → List Value
  | [] => []
  | p :: l => .int .i64 p.1 :: .int .i64 p.2 :: cellsP l
theorem cellsP_len : ∀ l : List Pt, (cellsP l).length = l.length * 2
  | [] => rfl
  | _ :: l => by simp [cellsP, cellsP_len l]; omega
theorem cellsP_app : ∀ a b : List Pt, cellsP (a ++ b) = cellsP a ++ cellsP b
  | [], _ => rfl
  | _ :: a, b => by simp [cellsP, cellsP_app a b]
theorem cellsP_get : ∀ (l : List Pt) (j : Nat), j < l.length → (cellsP l)[j * 2]? = some (.int .i64 (vx l j).1) ∧ (cellsP l)[j * 2 + 1]? = some (.int .i64 (vx l j).2)
  | [], j, h => by simp at h
  | p :: l, 0, _ => ⟨rfl, rfl⟩
  | p :: l, j + 1, h => by
    have := cellsP_get l j (by simpa using h)
    have e : vx (p :: l) (j + 1) = vx l j := rfl
    rw [e, show (j + 1) * 2 = j * 2 + 1 + 1 by omega]
    exact this
theorem cellsP_one (l : List Pt) : ∀ u ∈ cellsP l, u.oneCell' = true := by
  induction l with
  | nil => intro u h; simp [cellsP] at h
  | cons p l ih =>
    intro u h
    simp only [cellsP, List.mem_cons] at h
    rcases h with rfl | rfl | h
    · rfl
    · rfl
    · exact ih u h
/-- Cells at even places and those behind them. -/
def Pairs (xs : List Value) (l : List Pt) (k : Nat) : Prop := ∀ j, j < k → xs[j * 2]? = some (.int .i64 (vx l j).1) ∧ xs[j * 2 + 1]? = some (.int .i64 (vx l j).2)
theorem Pairs.step {xs : List Value} {l : List Pt} {k : Nat} (h : Pairs xs l k) (hk : k * 2 + 1 < xs.length) : Pairs ((xs.set (k * 2) (.int .i64 (vx l k).1)).set (k * 2 + 1) (.int .i64 (vx l k).2)) l (k + 1) := by
  intro j hj
  by_cases e : j = k
  · subst e
    exact ⟨by rw [List.getElem?_set_ne (by omega), List.getElem?_set_self (by omega)], by rw [List.getElem?_set_self (by simp; omega)]⟩
  · have := h j (by omega)
    exact ⟨by rw [List.getElem?_set_ne (by omega), List.getElem?_set_ne (by omega)]; exact this.1, by rw [List.getElem?_set_ne (by omega), List.getElem?_set_ne (by omega)]; exact this.2⟩
theorem row_at {w : World} {base : Nat} {v : Value} {l : List Pt} {xs : List Value} (h : w.ownsRow base 26 2 v l.length xs) (hp : Pairs xs l l.length) (hok : PtsOk l) : PtsAt w v l := by
  refine ⟨?_, hok⟩
  rcases h.2 with ⟨rfl, h0⟩ | ⟨g, cap, cur, rfl, _, _, hn, hc, _, _⟩
  · exact ⟨none, 0, by rw [h0], by omega, by omega, .inl (List.length_eq_zero_iff.1 h0)⟩
  · have hc' : (cap : Int) ≤ 9223372036854775807 := by unfold maxLen at hc; omega
    refine ⟨some ⟨g, 0, none⟩, cap, rfl, hn, hc', .inr ⟨g, 0, rfl, fun j hj => ?_⟩⟩
    have := hp j hj
    exact ⟨by rw [Nat.zero_add]; exact (h.cellAt (j * 2) (by omega)).trans this.1, by rw [Nat.zero_add]; exact (h.cellAt (j * 2 + 1) (by omega)).trans this.2⟩
theorem owns_at {w : World} {base : Nat} {v : Value} {l : List Pt} (h : w.ownsRow base 26 2 v l.length (cellsP l)) (hok : PtsOk l) : PtsAt w v l :=
  row_at h (fun j hj => cellsP_get l j hj) hok
theorem info_pt : (Try.prog.info? 26).map (fun i => (i.zero, i.size, i.bytes)) = some (some (.agg #[.int .i64 0, .int .i64 0]), 2, 16) := by kernel_rfl
theorem own_via {w w' : World} {base : Nat} {e : TypeId} {size : Nat} {v : Value} {n : Nat} {xs : List Value} (h : w.ownsRow base e size v n xs) (hB : Below w.heap.size w w') : w'.ownsRow base e size v n xs := by
  refine ⟨h.1, ?_⟩
  rcases h.2 with h | ⟨g, cap, cur, h1, h2, h3, h4⟩
  · exact .inl h
  · exact .inr ⟨g, cap, cur, h1, h2, heap_below hB h3, h4⟩
theorem row_cells {w w' : World} {base g m k cap : Nat} {e : TypeId} {xs : List Value} (h : w.ownsRow base e 2 (.slice (some ⟨g, 0, none⟩) m cap) m xs) (hB : Below w.heap.size w w') (hk : k * 2 + 1 < xs.length) :
    ∃ x0 x1, w'.cell? ⟨g, k * 2, none⟩ = some x0 ∧ w'.cell? ⟨g, k * 2 + 1, none⟩ = some x1 ∧ w'.frozen? ⟨g, k * 2, none⟩ = false ∧ w'.frozen? ⟨g, k * 2 + 1, none⟩ = false := by
  have h6 := own_via h hB
  have hl := h.1
  exact ⟨xs[k * 2], xs[k * 2 + 1], (h6.cellAt (k * 2) (by omega)).trans (List.getElem?_eq_getElem (by omega)), (h6.cellAt (k * 2 + 1) (by omega)).trans (List.getElem?_eq_getElem hk), h6.frozenAt _, h6.frozenAt _⟩
theorem vx_map {l : List Pt} (f : Pt → Pt) {k : Nat} (h : k < l.length) : vx (l.map f) k = f (vx l k) := by
  rw [vx_eq (by simpa using h), vx_eq h]; simp
set_option maxRecDepth 100000 in
set_option maxHeartbeats 4000000 in
theorem changed_w (l : List Pt) (hl : l.length ≤ 100) (f : Pt → Pt) (g : Nat) (lb : Array Value) (eg : ∀ args w, (callFunc g args).run Try.prog w = .ok (.enter g args) w) (v : Value) (w : World) (hv : PtsAt w v l)
    (hf : ∀ k, k < l.length → ∀ w1, Below w.heap.size w w1 → Calls Try.prog g (#[pv (vx l k)] ++ lb) w1 fun e w' => e = .returned (pv (f (vx l k))) ∧ Below w1.heap.size w1 w') (hok : PtsOk (l.map f)) :
    Calls Try.prog 60 #[v, .func (.func g) #[] lb] w fun e w' => ∃ r, e = .returned r ∧ PtsAt w' r (l.map f) ∧ Below w.heap.size w w' := by
  have HV := Lib.hid hv
  obtain ⟨⟨a, c, rfl, _, _, _⟩, _⟩ := hv
  obtain ⟨m, hm⟩ : ∃ m, m = l.length := ⟨_, rfl⟩
  have HM := Lib.hid hm
  have HF := Lib.hid hf
  have HOK := Lib.hid hok
  have hmb : (m : Int) ≤ 100 := by omega
  rw [← hm] at HV ⊢
  clear hm hf hok
  obtain ⟨i0, hi, hz0, hz1, hz2⟩ := info_parts info_pt
  obtain ⟨w1, hmk, hown, hgr⟩ := run_make_full (P := Try.prog) w w.heap.size 23 26 i0 _ 2 Try.underlying23 hi hz0 hz1 .i64 .i64 m (by rw [hz2]; omega) (by unfold maxLen; omega) (Nat.le_refl _)
  have hB1 : Below w.heap.size w w1 := (Below.refl _ w).grown hgr (Nat.le_refl _) (fun k e => by cases e)
  clear hi hz0 hz1 hz2 hgr
  have HO := Lib.hid hown
  have HB1 := Lib.hid hB1
  clear hown hB1
  go_enter Try.func60, Try.ntmps60
  go_wp2_with fail
  go_loopw [13] (fun i wr => ∃ (k : Nat) (xs : List Value), k ≤ m ∧ i = .int .i64 k ∧ wr.ownsRow w.heap.size 26 2 (.slice (some ⟨w.heap.size, 0, none⟩) m m) m xs ∧ Pairs xs (l.map f) k ∧ Below w.heap.size w wr) (fun i _ => m - (intOf i).toNat)
  case atStart => exact ⟨0, _, by omega, rfl, HO.out, fun j hj => by omega, HB1.out⟩
  case round =>
    obtain ⟨k, xs, hk, rfl, hown, hpr, hB⟩ := hrel
    by_cases hlt : k < m
    · have hlt' : (k : Int) < m := by omega
      have hkl : k < l.length := by rw [← HM.out]; exact hlt
      have hv2 := HV.out.via hB
      obtain ⟨⟨a', c', he, _, _, hin⟩, _⟩ := hv2
      rw [← HM.out] at he
      cases he
      obtain ⟨g', o, rfl, c0, c1⟩ := hin.get hkl
      have hc := fun w2 (hB2 : Below w.heap.size w w2) => HF.out k hkl w2 hB2
      have hmp := vx_map f hkl
      have hx2 : k * 2 + 1 < xs.length := by rw [hown.1]; omega
      have hB5 := belowStep hB (alloc_below wr (.cells #[.int .i64 (vx l k).1, .int .i64 (vx l k).2] 26))
      have ho5 := own_via hown (alloc_below wr (.cells #[.int .i64 (vx l k).1, .int .i64 (vx l k).2] 26))
      have hst := hpr.step hx2
      rw [hmp] at hst
      have HC := Lib.hid (hc _ hB5)
      have HST := Lib.hid hst
      have HB5 := Lib.hid hB5
      have HO5 := Lib.hid ho5
      have HX2 := Lib.hid hx2
      clear hin hc hmp hx2 hB5 ho5 hst hown hpr hB
      unfold pv at HC
      generalize f (vx l k) = q at *
      generalize vx l k = p at *
      obtain ⟨p1, p2⟩ := p
      obtain ⟨q1, q2⟩ := q
      dsimp only at c0 c1 HC HB5 HO5 HST
      go_wp2_with ((with_reducible refine HC.out.mono ?_); rintro e u3 ⟨rfl, hB3⟩; obtain ⟨x0, x1, y0, y1, z0, z1⟩ := row_cells HO5.out hB3 HX2.out)
      go_roundw
      case rel =>
        refine ⟨k + 1, _, by omega, by go_num, (((own_via HO5.out hB3).stored _ _).1.stored _ _).1, HST.out, ?_⟩
        exact ((belowStep HB5.out hB3).setCell (p := ⟨w.heap.size, k * 2, none⟩) (by simp) _).setCell (p := ⟨w.heap.size, k * 2 + 1, none⟩) (by simp) _
      case measure => simp [intOf]; omega
    · obtain rfl : k = m := by omega
      have hr : PtsAt wr (.slice (some ⟨w.heap.size, 0, none⟩) k k) (l.map f) := by
        have e : (l.map f).length = k := by rw [List.length_map]; exact HM.out.symm
        exact row_at (by rw [e]; exact hown) (by rw [e]; exact hpr) HOK.out
      have HR := Lib.hid hr
      have HBB := Lib.hid hB
      clear hown hpr hB hr
      go_wp2_with fail
      go_ret
      exact ⟨_, rfl, HR.out, HBB.out⟩
end Go.Proofs.Ytliligehofjegaa
