/- The contract of position. -/
import Derived.RangeFuncBox
import Derived.OneCell
import Derived.Test.YtliligehofjegaaPlnEdges
namespace Go.Proofs.Ytliligehofjegaa
open Go.RowKit Go.Shelf Pln
attribute [local go_sem] Oper.semAt_some

/-- All corners are on the map, or on that of twice the size. -/
def Smls (l : List Pt) : Prop := ∀ i, i < l.length → Sml (vx l i)
theorem val_smls {l : List Pt} (v : Val l) : Smls l := fun i hi => on_sml (v.on i hi)
theorem cell_heap {A : World} {b i : Nat} {cs : Array Value} {t : TypeId} {fr : Nat × Nat} {x : Value} (h : A.heap[b]? = some (.cells cs t fr)) (hx : cs[i]? = some x) : A.cell? ⟨b, i, none⟩ = some x := (cell_of_row A b i cs t fr h).trans hx
theorem below_of_le {m n : Nat} {A A' : World} (h : Below n A A') (hm : m ≤ n) : Below m A A' := ⟨h.os, h.tape, h.output, h.size, fun b hb => h.block b (Nat.lt_of_lt_of_le hb hm)⟩
theorem kept_n {n : Nat} {w w' : World} {b i : Nat} {x : Value} (h : Below n w w') (hb : b < n) (hc : w.cell? ⟨b, i, none⟩ = some x) : w'.cell? ⟨b, i, none⟩ = some x := (h.cell (p := ⟨b, i, none⟩) hb).trans hc
theorem frozen_n {n : Nat} {w w' : World} {b i : Nat} {f : Bool} (h : Below n w w') (hb : b < n) (hc : w.frozen? ⟨b, i, none⟩ = f) : w'.frozen? ⟨b, i, none⟩ = f := (h.frozen (p := ⟨b, i, none⟩) hb).trans hc
theorem PtsIn.via_n {n : Nat} {w w' : World} {a : Option Addr} {l : List Pt} (h : PtsIn w a l) (hB : Below n w w') (hn : ∀ g o, a = some ⟨g, o, none⟩ → g < n) : PtsIn w' a l := by
  rcases h with h | ⟨g, o, h1, h2⟩
  · exact .inl h
  · exact .inr ⟨g, o, h1, fun j hj => ⟨kept_n hB (hn _ _ h1) (h2 j hj).1, kept_n hB (hn _ _ h1) (h2 j hj).2⟩⟩

/-- What stands while the edges are gone through: the list, the place, the number so far, as blocks of the call's own. -/
structure PosI (w : World) (v : Value) (l : List Pt) (p : Pt) (x : Int) (A : World) : Prop where
  held : A.cell? ⟨w.heap.size + 1 + 1, 0, none⟩ = some v
  p0 : A.cell? ⟨w.heap.size, 0, none⟩ = some (.int .i64 p.1)
  p1 : A.cell? ⟨w.heap.size, 1, none⟩ = some (.int .i64 p.2)
  now : Boxed A (w.heap.size + 1) 3 (.int .i64 x)
  below : Below w.heap.size w A
theorem PosI.held_ {w : World} {v : Value} {l : List Pt} {p : Pt} {x : Int} {A : World} (h : PosI w v l p x A) (hv : PtsAt w v l) : Held (w.heap.size + 1 + 1) v l A := ⟨h.held, hv.via h.below⟩
theorem PosI.via {w w0 : World} {v : Value} {l : List Pt} {p : Pt} {x : Int} {A A' : World} (h : PosI w v l p x A) (hB : Below w0.heap.size A A') (hs : w.heap.size + 1 + 1 < w0.heap.size) : PosI w v l p x A' :=
  ⟨kept_n hB hs h.held, kept_n hB (by omega) h.p0, kept_n hB (by omega) h.p1, (hB.block _ (by omega)).trans h.now, h.below.trans (below_of_le hB (by omega))⟩
theorem cell_set_ne {A : World} {b i b' i' : Nat} {y : Value} (h : b ≠ b') : (A.setCell ⟨b', i', none⟩ y).cell? ⟨b, i, none⟩ = A.cell? ⟨b, i, none⟩ := World.cell?_of_block (heap_setCell_other A ⟨b', i', none⟩ b y (by simpa using h))
theorem PosI.set {w : World} {v : Value} {l : List Pt} {p : Pt} {x : Int} {A : World} (h : PosI w v l p x A) (y : Int) : PosI w v l p y (A.setCell ⟨w.heap.size + 1, 0, none⟩ (.int .i64 y)) :=
  ⟨(cell_set_ne (by omega)).trans h.held, (cell_set_ne (by omega)).trans h.p0, (cell_set_ne (by omega)).trans h.p1, h.now.set _, h.below.setCell (p := ⟨w.heap.size + 1, 0, none⟩) (by simp) _⟩

set_option maxRecDepth 100000 in
set_option maxHeartbeats 4000000 in
theorem position_in (l : List Pt) (p : Pt) (v : Value) (w : World) (hv : PtsAt w v l) (hl : l.length ≤ 100) (hs : Smls l) (hp : Sml p) :
    CallsIn Fence.wide 5 Try.prog 48 #[v, pv p] w fun e w' => e = .returned (.int .i64 (posP l p)) ∧ Below w.heap.size w w' := by
  have HV := Lib.hid hv
  obtain ⟨⟨a, c, rfl, _, _, _⟩, _⟩ := hv
  obtain ⟨m, hm⟩ : ∃ m, m = l.length := ⟨_, rfl⟩
  have HM := Lib.hid hm
  have hl0 := hl
  have hml : (m : Int) ≤ 100 := by omega
  rw [← hm] at HV ⊢
  clear hm
  refine callsIn_of_wp_marks Try.func48 rfl trivial ?_ rfl
  simp only [Try.ntmps48, List.size_toArray, List.length_cons, List.length_nil, Nat.reduceAdd, Nat.reduceSub, Array.replicate_succ, Array.replicate_zero, List.push_toArray, List.append_toArray, List.nil_append, List.cons_append]
  unfold pv
  gi_wp2_with fail
  refine ⟨trivial, ?_⟩
  refine (callsIn_wide.2 (edges_w _ _ _ _)).mono ?_
  rintro e w1 ⟨rfl, rfl⟩
  gi_wp2_with fail
  obtain ⟨w0, hw0⟩ : ∃ w0 : World, w0 = ((w.alloc (.cells #[.int .i64 p.1, .int .i64 p.2] 26)).alloc (.cells #[.int .i64 1] 3)).alloc (.cells #[.slice a m c] 23) := ⟨_, rfl⟩
  have hsz : w0.heap.size = w.heap.size + 1 + 1 + 1 := by rw [hw0, World.size_alloc, World.size_alloc, World.size_alloc]
  have hB0 : Below w.heap.size w w0 := by rw [hw0]; exact (((Below.refl _ w).alloc (Nat.le_refl _) _).alloc (by simp) _).alloc (by simp; omega) _
  have hI0 : PosI w (.slice a m c) l p 1 w0 := by
    rw [hw0]
    have e1 : (w.alloc (.cells #[.int .i64 p.1, .int .i64 p.2] 26)).heap.size = w.heap.size + 1 := World.size_alloc _ _
    have e2 : ((w.alloc (.cells #[.int .i64 p.1, .int .i64 p.2] 26)).alloc (.cells #[.int .i64 1] 3)).heap.size = w.heap.size + 1 + 1 := by rw [World.size_alloc, e1]
    refine ⟨?_, cellA _ (cellA _ (cell_rowN w _ _ 0 rfl)), cellA _ (cellA _ (cell_rowN w _ _ 1 rfl)), ?_, by rw [← hw0]; exact hB0⟩
    · rw [← e2]; exact cell_rowN _ _ _ 0 rfl
    · rw [← e1]; exact (Boxed.new _ _ _).alloc _
  rw [← hw0]
  have HI0 := Lib.hid hI0
  clear hw0 hI0 hB0
  refine wpIn_rangeFunc_yields rfl (by omega) (gf := 70) (lb := #[.pointer (some ⟨w.heap.size + 1 + 1, 0, none⟩)]) rfl trivial (enters_of Try.func70 (by kernel_rfl) rfl)
    (edges1_yields 4 (w.heap.size + 1 + 1) (.slice a m c) l hl0) (fun _ => rfl)
    (fun k A => PosI w (.slice a m c) l p (lst l p k) A) (fun _ _ _ => False)
    (fun k A A' h hB => h.via hB (by omega)) (fun _ _ _ _ h _ => h) (fun k A h => h.held_ HV.out) HI0.out
    (fun k a' A => ∃ Be, Be ≠ w0.heap.size + 1 ∧ w.heap.size + 1 + 1 < Be ∧ A.heap[Be]? = some (.cells #[.int .i64 (vx l k).1, .int .i64 (vx l k).2, .int .i64 (nx l k).1, .int .i64 (nx l k).2] 71 (0, 0)) ∧ a' = { tmps := #[.slice a m c, .agg #[.int .i64 p.1, .int .i64 p.2], undef, .pointer (some ⟨w.heap.size, 0, none⟩), .int .i64 0, .pointer (some ⟨w.heap.size + 1, 0, none⟩), undef, .pointer (some ⟨Be, 0, none⟩), .slice a m c, .func (.func 70) #[] #[.pointer (some ⟨w.heap.size + 1 + 1, 0, none⟩)], .int .i64 k, ev (vx l k) (nx l k), undef, undef, undef, undef, undef, undef, undef], defers := [] })
    (fun k a' A A' ⟨Be, h1, h2, h3, h4⟩ hk => ⟨Be, h1, h2, (hk Be h1).trans h3, h4⟩) ?assign ?body ?done (fun _ _ _ _ _ _ h _ => h.elim)
  case assign =>
    rintro L k W hk hlt hI
    have HI := Lib.hid hI
    clear hI
    have HE : Hid (encE l k = #[.int .i64 k, ev (vx l k) (nx l k)]) := Lib.hid rfl
    rw [HE.out]
    unfold ev
    gi_wp2
    have hb2 : Below W.heap.size W (W.alloc (.cells #[.int .i64 (vx l k).1, .int .i64 (vx l k).2, .int .i64 (nx l k).1, .int .i64 (nx l k).2] 71)) := alloc_below _ _
    exact ⟨Above.of_below hb2, HI.out.via (w0 := w0) (below_of_le hb2 (by omega)) (by omega), W.heap.size, by omega, by omega, heap_alloc_new _ _, rfl⟩
  case body =>
    rintro L k a' W hk hlt hI ⟨Be, hne, hlt2, hE, rfl⟩
    have hkl := hk
    have ht := fun w => turn_w (vx l k) (nx l k) p (hs k hkl) (hs _ (mod_lt' hkl)) hp w
    have hti := turn_in (hs k hkl) (hs _ (mod_lt' hkl)) hp
    have hnx : nx l k = vx l ((k + 1) % l.length) := rfl
    rw [← hnx] at hti
    obtain ⟨t, htt⟩ : ∃ t, t = turn (vx l k) (nx l k) p := ⟨_, rfl⟩
    rw [← htt] at ht hti
    have hle := lst_le l p k
    have HX : Hid (lst l p (k + 1) = min (lst l p k) t) := by rw [htt]; exact Lib.hid rfl
    obtain ⟨x, hx⟩ : ∃ x, x = lst l p k := ⟨_, rfl⟩
    obtain ⟨y, hy⟩ : ∃ y, y = lst l p (k + 1) := ⟨_, rfl⟩
    rw [← hx] at hI hle HX
    rw [← hy] at HX
    have HYY := Lib.hid hy
    have hmn : (if t < x then t else x) = y := by rw [HX.out]; split <;> omega
    have c0 := hI.now.cell
    have c1 := hI.now.frozen
    have p0 := hI.p0
    have p1 := hI.p1
    have e0 : W.cell? ⟨Be, 0, none⟩ = some (.int .i64 (vx l k).1) := cell_heap hE rfl
    have e1 : W.cell? ⟨Be, 1, none⟩ = some (.int .i64 (vx l k).2) := cell_heap hE rfl
    have e2 : W.cell? ⟨Be, 2, none⟩ = some (.int .i64 (nx l k).1) := cell_heap hE rfl
    have e3 : W.cell? ⟨Be, 3, none⟩ = some (.int .i64 (nx l k).2) := cell_heap hE rfl
    have HT := Lib.hid ht
    have HI := Lib.hid hI
    clear ht hI HX hnx htt hx hy hE HI0
    unfold ev at HT ⊢
    unfold pv at HT
    generalize vx l k = s at *
    generalize nx l k = r at *
    have k0 : W.drew.cell? ⟨w.heap.size + 1, 0, none⟩ = some (.int .i64 x) := c0
    have k1 : W.drew.frozen? ⟨w.heap.size + 1, 0, none⟩ = false := c1
    have p0 : W.drew.cell? ⟨w.heap.size, 0, none⟩ = some (.int .i64 p.1) := p0
    have p1 : W.drew.cell? ⟨w.heap.size, 1, none⟩ = some (.int .i64 p.2) := p1
    have e0 : W.drew.cell? ⟨Be, 0, none⟩ = some (.int .i64 s.1) := e0
    have e1 : W.drew.cell? ⟨Be, 1, none⟩ = some (.int .i64 s.2) := e1
    have e2 : W.drew.cell? ⟨Be, 2, none⟩ = some (.int .i64 r.1) := e2
    have e3 : W.drew.cell? ⟨Be, 3, none⟩ = some (.int .i64 r.2) := e3
    gi_wp2
    have hB : Below W.heap.size W W.drew := (Below.refl _ _).drew
    refine wpIn_region_T (fun w' => Below W.drew.heap.size W.drew w') 5 (by kernel_rfl) ?_
    generalize W.drew = wd at *
    refine wpT_tk 0 12 (v := ?_) (Below.refl _ _) rfl rfl (by rfl) (hy := fun w hw => ?_) (h := ?_)
    rotate_left
    · have k0 := keptBelow hw k0; go_simp; with_reducible rfl
    try simp only [Act.put, List.setIfInBounds_toArray, List.set_cons_zero, List.set_cons_succ]
    refine wpT_tk 1 13 (v := ?_) (Below.refl _ _) rfl rfl (by rfl) (hy := fun w hw => ?_) (h := ?_)
    rotate_left
    · have e0 := keptBelow hw e0; have e1 := keptBelow hw e1; have e2 := keptBelow hw e2; have e3 := keptBelow hw e3; go_simp; with_reducible rfl
    try simp only [Act.put, List.setIfInBounds_toArray, List.set_cons_zero, List.set_cons_succ]
    refine wpT_tk 2 14 (v := ?_) (Below.refl _ _) rfl rfl (by rfl) (hy := fun w hw => ?_) (h := ?_)
    rotate_left
    · have p0 := keptBelow hw p0; have p1 := keptBelow hw p1; go_simp; with_reducible rfl
    try simp only [Act.put, List.setIfInBounds_toArray, List.set_cons_zero, List.set_cons_succ]
    refine wpT_one 3 rfl rfl (by kernel_rfl) ?_
    go_simp
    refine ⟨trivial, ?_⟩
    refine ((callsIn_wide.2 (HT.out _)).inRound L).mono ?_

    rintro e w3 ⟨rfl, hB3⟩
    have k1 := frozenBelow hB3 k0 k1
    have k0 := keptBelow hB3 k0
    have hB := belowVia hB3 hB
    clear e0 e1 e2 e3 p0 p1
    refine ⟨hB3, ?_⟩
    refine wpT_tk 4 16 (v := ?_) hB3 rfl rfl (by rfl) (hy := fun w hw => ?_) (h := ?_)
    rotate_left
    · go_simp; with_reducible rfl
    try simp only [Act.put, List.setIfInBounds_toArray, List.set_cons_zero, List.set_cons_succ]
    refine wpT_one 5 rfl rfl (by kernel_rfl) ?_
    go_simp
    refine wpT_done (by kernel_rfl) ?_ _
    refine ⟨(Above.of_below hB).trans (Above.setCell w3 (w.heap.size + 1) 0 _ (by omega)), ?_⟩
    have h5 := (HI.out.via (w0 := W) hB (by omega)).set y
    rw [HYY.out] at h5 ⊢
    exact h5
  case done =>
    rintro D W hD hI hK
    have c0 := hI.now.cell
    have hle := lst_le l p l.length
    have hp : posP l p = max (lst l p l.length) (-1) := rfl
    obtain ⟨x, hx⟩ : ∃ x, x = lst l p l.length := ⟨_, rfl⟩
    rw [← hx] at hI hle hp c0
    have HP := Lib.hid hp
    have hB := hI.below
    have hDl : D < W.heap.size := (Array.getElem?_eq_some_iff.1 hK).1
    have HK := Lib.hid hK
    clear hI hK hp hx HI0
    gi_wp2
    · refine ⟨by simp, .inl ⟨_, _, rfl, run_takeDeferred HK.out, ?_⟩⟩
      exact ⟨_, results_tmp rfl _ _ _, (by rw [show posP l p = -1 by rw [HP.out]; omega]; rfl), hB.trans (belowK_b (w := w) (Nat.le_refl _) W D _ _ (by omega) HK.out rfl rfl)⟩
    · refine ⟨by simp, .inl ⟨_, _, rfl, run_takeDeferred HK.out, ?_⟩⟩
      exact ⟨_, results_tmp rfl _ _ _, (by rw [show posP l p = x by rw [HP.out]; omega]; rfl), hB.trans (belowK_b (w := w) (Nat.le_refl _) W D _ _ (by omega) HK.out rfl rfl)⟩
theorem position_w (l : List Pt) (p : Pt) (v : Value) (w : World) (hv : PtsAt w v l) (hl : l.length ≤ 100) (hs : Smls l) (hp : Sml p) :
    Calls Try.prog 48 #[v, pv p] w fun e w' => e = .returned (.int .i64 (posP l p)) ∧ Below w.heap.size w w' :=
  callsIn_wide.1 (position_in l p v w hv hl hs hp)
end Go.Proofs.Ytliligehofjegaa
