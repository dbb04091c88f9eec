/- The contract of total. -/
import Derived.Test.YtliligehofjegaaPlnPos
namespace Go.Proofs.Ytliligehofjegaa
open Go.RowKit Go.Shelf Pln
attribute [local go_sem] Oper.semAt_some

structure TotI (w : World) (v : Value) (fv : Value) (x : Int) (A : World) : Prop where
  held : A.cell? ⟨w.heap.size + 1 + 1, 0, none⟩ = some v
  fn : A.cell? ⟨w.heap.size, 0, none⟩ = some fv
  now : Boxed A (w.heap.size + 1) 3 (.int .i64 x)
  below : Below w.heap.size w A
theorem TotI.held_ {w : World} {v fv : Value} {l : List Pt} {x : Int} {A : World} (h : TotI w v fv x A) (hv : PtsAt w v l) : Held (w.heap.size + 1 + 1) v l A := ⟨h.held, hv.via h.below⟩
theorem TotI.via {w w0 : World} {v fv : Value} {x : Int} {A A' : World} (h : TotI w v fv x A) (hB : Below w0.heap.size A A') (hs : w.heap.size + 1 + 1 < w0.heap.size) : TotI w v fv x A' :=
  ⟨kept_n hB hs h.held, kept_n hB (by omega) h.fn, (hB.block _ (by omega)).trans h.now, h.below.trans (below_of_le hB (by omega))⟩
theorem TotI.set {w : World} {v fv : Value} {x : Int} {A : World} (h : TotI w v fv x A) (y : Int) : TotI w v fv y (A.setCell ⟨w.heap.size + 1, 0, none⟩ (.int .i64 y)) :=
  ⟨(cell_set_ne (by omega)).trans h.held, (cell_set_ne (by omega)).trans h.fn, h.now.set _, h.below.setCell (p := ⟨w.heap.size + 1, 0, none⟩) (by simp) _⟩

set_option maxRecDepth 100000 in
set_option maxHeartbeats 4000000 in
theorem total_in (l : List Pt) (f : Pt → Pt → Int) (g : Nat) (eg : ∀ args w, (callFunc g args).run Try.prog w = .ok (.enter g args) w) (v : Value) (w : World) (hv : PtsAt w v l) (hl : l.length ≤ 100)
    (hf : ∀ k, k < l.length → ∀ w1, Calls Try.prog g #[ev (vx l k) (nx l k)] w1 fun e w' => e = .returned (.int .i64 (f (vx l k) (nx l k))) ∧ Below w1.heap.size w1 w')
    (hb : ∀ k, k ≤ l.length → -4611686018427387904 ≤ sumE l f k ∧ sumE l f k ≤ 4611686018427387904) :
    CallsIn Fence.wide 5 Try.prog 45 #[v, .func (.func g) #[] #[]] w fun e w' => e = .returned (.int .i64 (sumE l f l.length)) ∧ Below w.heap.size w w' := by
  have HV := Lib.hid hv
  obtain ⟨⟨a, c, rfl, _, _, _⟩, _⟩ := hv
  obtain ⟨m, hm⟩ : ∃ m, m = l.length := ⟨_, rfl⟩
  have HM := Lib.hid hm
  have hl0 := hl
  have hml : (m : Int) ≤ 100 := by omega
  rw [← hm] at HV ⊢
  clear hm
  refine callsIn_of_wp_marks Try.func45 rfl trivial ?_ rfl
  simp only [Try.ntmps45, List.size_toArray, List.length_cons, List.length_nil, Nat.reduceAdd, Nat.reduceSub, Array.replicate_succ, Array.replicate_zero, List.push_toArray, List.append_toArray, List.nil_append, List.cons_append]
  have EG := Lib.hid eg
  have HF := Lib.hid hf
  have HB := Lib.hid hb
  clear hf hb eg
  gi_wp2_with fail
  refine ⟨trivial, ?_⟩
  refine (callsIn_wide.2 (edges_w _ _ _ _)).mono ?_
  rintro e w1 ⟨rfl, rfl⟩
  gi_wp2_with fail
  obtain ⟨w0, hw0⟩ : ∃ w0 : World, w0 = ((w.alloc (.cells #[.func (.func g) #[] #[]] 65)).alloc (.cells #[.int .i64 0] 3)).alloc (.cells #[.slice a m c] 23) := ⟨_, rfl⟩
  have hsz : w0.heap.size = w.heap.size + 1 + 1 + 1 := by rw [hw0, World.size_alloc, World.size_alloc, World.size_alloc]
  have hB0 : Below w.heap.size w w0 := by rw [hw0]; exact (((Below.refl _ w).alloc (Nat.le_refl _) _).alloc (by simp) _).alloc (by simp; omega) _
  have hI0 : TotI w (.slice a m c) (.func (.func g) #[] #[]) 0 w0 := by
    rw [hw0]
    have e1 : (w.alloc (.cells #[.func (.func g) #[] #[]] 65)).heap.size = w.heap.size + 1 := World.size_alloc _ _
    have e2 : ((w.alloc (.cells #[.func (.func g) #[] #[]] 65)).alloc (.cells #[.int .i64 0] 3)).heap.size = w.heap.size + 1 + 1 := by rw [World.size_alloc, e1]
    refine ⟨?_, cellA _ (cellA _ (cell_rowN w _ _ 0 rfl)), ?_, by rw [← hw0]; exact hB0⟩
    · rw [← e2]; exact cell_rowN _ _ _ 0 rfl
    · rw [← e1]; exact (Boxed.new _ _ _).alloc _
  rw [← hw0]
  have HI0 := Lib.hid hI0
  clear hw0 hI0 hB0
  refine wpIn_rangeFunc_yields rfl (by omega) (gf := 70) (lb := #[.pointer (some ⟨w.heap.size + 1 + 1, 0, none⟩)]) rfl trivial (enters_of Try.func70 (by kernel_rfl) rfl)
    (edges1_yields 4 (w.heap.size + 1 + 1) (.slice a m c) l hl0) (fun _ => rfl)
    (fun k A => TotI w (.slice a m c) (.func (.func g) #[] #[]) (sumE l f k) A) (fun _ _ _ => False)
    (fun k A A' h hB => h.via hB (by omega)) (fun _ _ _ _ h _ => h) (fun k A h => h.held_ HV.out) HI0.out
    (fun k a' A => ∃ Be, Be ≠ w0.heap.size + 1 ∧ w.heap.size + 1 + 1 < Be ∧ A.heap[Be]? = some (.cells #[.int .i64 (vx l k).1, .int .i64 (vx l k).2, .int .i64 (nx l k).1, .int .i64 (nx l k).2] 71 (0, 0)) ∧ a' = { tmps := #[.slice a m c, .func (.func g) #[] #[], undef, .pointer (some ⟨w.heap.size, 0, none⟩), .int .i64 0, .pointer (some ⟨w.heap.size + 1, 0, none⟩), undef, .pointer (some ⟨Be, 0, none⟩), .slice a m c, .func (.func 70) #[] #[.pointer (some ⟨w.heap.size + 1 + 1, 0, none⟩)], .int .i64 k, ev (vx l k) (nx l k), undef, undef, undef, undef, undef, undef], defers := [] })
    (fun k a' A A' ⟨Be, h1, h2, h3, h4⟩ hk => ⟨Be, h1, h2, (hk Be h1).trans h3, h4⟩) ?assign ?body ?done (fun _ _ _ _ _ _ h _ => h.elim)
  case assign =>
    rintro L k W hk hlt hI
    have HI := Lib.hid hI
    clear hI
    have HE : Hid (encE l k = #[.int .i64 k, ev (vx l k) (nx l k)]) := Lib.hid rfl
    rw [HE.out]
    unfold ev
    gi_wp2
    have hb2 : Below W.heap.size W (W.alloc (.cells #[.int .i64 (vx l k).1, .int .i64 (vx l k).2, .int .i64 (nx l k).1, .int .i64 (nx l k).2] 71)) := alloc_below _ _
    exact ⟨Above.of_below hb2, HI.out.via (w0 := w0) (below_of_le hb2 (by omega)) (by omega), W.heap.size, by omega, by omega, heap_alloc_new _ _, rfl⟩
  case body =>
    rintro L k a' W hk hlt hI ⟨Be, hne, hlt2, hE, rfl⟩
    have hkl := hk
    have ht := HF.out k hkl
    have b1 := HB.out k (by omega)
    have b2 := HB.out (k + 1) (by omega)
    have HX : Hid (sumE l f (k + 1) = sumE l f k + f (vx l k) (nx l k)) := Lib.hid rfl
    rw [HX.out] at b2
    obtain ⟨t, htt⟩ : ∃ t, t = f (vx l k) (nx l k) := ⟨_, rfl⟩
    rw [← htt] at ht b2 HX
    obtain ⟨x, hx⟩ : ∃ x, x = sumE l f k := ⟨_, rfl⟩
    obtain ⟨y, hy⟩ : ∃ y, y = sumE l f (k + 1) := ⟨_, rfl⟩
    rw [← hx] at hI HX b1 b2
    rw [← hy] at HX
    have HYY := Lib.hid hy
    obtain ⟨b1, b1'⟩ := b1
    obtain ⟨b2, b2'⟩ := b2
    have hmn : IntKind.i64.wrap (x + t) = y := by rw [HX.out]; exact IntWalk.i64_in _ (by omega)
    have c0 := hI.now.cell
    have c1 := hI.now.frozen
    have p0 := hI.fn
    have e0 : W.cell? ⟨Be, 0, none⟩ = some (.int .i64 (vx l k).1) := cell_heap hE rfl
    have e1 : W.cell? ⟨Be, 1, none⟩ = some (.int .i64 (vx l k).2) := cell_heap hE rfl
    have e2 : W.cell? ⟨Be, 2, none⟩ = some (.int .i64 (nx l k).1) := cell_heap hE rfl
    have e3 : W.cell? ⟨Be, 3, none⟩ = some (.int .i64 (nx l k).2) := cell_heap hE rfl
    have HT := Lib.hid ht
    have HI := Lib.hid hI
    clear ht hI HX htt hx hy hE HI0 b2 b2' b1 b1'
    unfold ev at HT ⊢
    generalize vx l k = s at *
    generalize nx l k = r at *
    have k0 : W.drew.cell? ⟨w.heap.size + 1, 0, none⟩ = some (.int .i64 x) := c0
    have k1 : W.drew.frozen? ⟨w.heap.size + 1, 0, none⟩ = false := c1
    have p0 : W.drew.cell? ⟨w.heap.size, 0, none⟩ = some (.func (.func g) #[] #[]) := p0
    have e0 : W.drew.cell? ⟨Be, 0, none⟩ = some (.int .i64 s.1) := e0
    have e1 : W.drew.cell? ⟨Be, 1, none⟩ = some (.int .i64 s.2) := e1
    have e2 : W.drew.cell? ⟨Be, 2, none⟩ = some (.int .i64 r.1) := e2
    have e3 : W.drew.cell? ⟨Be, 3, none⟩ = some (.int .i64 r.2) := e3
    gi_wp2
    have hB : Below W.heap.size W W.drew := (Below.refl _ _).drew
    refine wpIn_region_T (fun w' => Below W.drew.heap.size W.drew w') 5 (by kernel_rfl) ?_
    generalize W.drew = wd at *
    refine wpT_tk 0 12 (v := ?_) (Below.refl _ _) rfl rfl (by rfl) (hy := fun w hw => ?_) (h := ?_)
    rotate_left
    · have k0 := keptBelow hw k0; go_simp; with_reducible rfl
    try simp only [Act.put, List.setIfInBounds_toArray, List.set_cons_zero, List.set_cons_succ]
    refine wpT_tk 1 13 (v := ?_) (Below.refl _ _) rfl rfl (by rfl) (hy := fun w hw => ?_) (h := ?_)
    rotate_left
    · have p0 := keptBelow hw p0; go_simp; with_reducible rfl
    try simp only [Act.put, List.setIfInBounds_toArray, List.set_cons_zero, List.set_cons_succ]
    refine wpT_tk 2 14 (v := ?_) (Below.refl _ _) rfl rfl (by rfl) (hy := fun w hw => ?_) (h := ?_)
    rotate_left
    · have e0 := keptBelow hw e0; have e1 := keptBelow hw e1; have e2 := keptBelow hw e2; have e3 := keptBelow hw e3; go_simp; with_reducible rfl
    try simp only [Act.put, List.setIfInBounds_toArray, List.set_cons_zero, List.set_cons_succ]
    have eg := EG.out
    refine wpT_one 3 rfl rfl (by kernel_rfl) ?_
    go_simp
    refine ⟨trivial, ?_⟩
    refine ((callsIn_wide.2 (HT.out _)).inRound L).mono ?_

    rintro e w3 ⟨rfl, hB3⟩
    have k1 := frozenBelow hB3 k0 k1
    have k0 := keptBelow hB3 k0
    have hB := belowVia hB3 hB
    clear e0 e1 e2 e3 p0 eg
    refine ⟨hB3, ?_⟩
    refine wpT_tk 4 16 (v := ?_) hB3 rfl rfl (by rfl) (hy := fun w hw => ?_) (h := ?_)
    rotate_left
    · go_simp; with_reducible rfl
    try simp only [Act.put, List.setIfInBounds_toArray, List.set_cons_zero, List.set_cons_succ]
    refine wpT_one 5 rfl rfl (by kernel_rfl) ?_
    go_simp
    refine wpT_done (by kernel_rfl) ?_ _
    refine ⟨(Above.of_below hB).trans (Above.setCell w3 (w.heap.size + 1) 0 _ (by omega)), ?_⟩
    have h5 := (HI.out.via (w0 := W) hB (by omega)).set y
    rw [HYY.out] at h5 ⊢
    exact h5
  case done =>
    rintro D W hD hI hK
    have c0 := hI.now.cell
    have hB := hI.below
    obtain ⟨x, hx⟩ : ∃ x, x = sumE l f l.length := ⟨_, rfl⟩
    rw [← hx] at c0
    have HXX := Lib.hid hx
    have hDl : D < W.heap.size := (Array.getElem?_eq_some_iff.1 hK).1
    have HK := Lib.hid hK
    clear hI hK hx HI0
    gi_wp2
    refine ⟨by simp, .inl ⟨_, _, rfl, run_takeDeferred HK.out, ?_⟩⟩
    exact ⟨_, results_tmp rfl _ _ _, (by rw [HM.out, ← HXX.out]; rfl), hB.trans (belowK_b (w := w) (Nat.le_refl _) W D _ _ (by omega) HK.out rfl rfl)⟩
theorem total_w (l : List Pt) (f : Pt → Pt → Int) (g : Nat) (eg : ∀ args w, (callFunc g args).run Try.prog w = .ok (.enter g args) w) (v : Value) (w : World) (hv : PtsAt w v l) (hl : l.length ≤ 100)
    (hf : ∀ k, k < l.length → ∀ w1, Calls Try.prog g #[ev (vx l k) (nx l k)] w1 fun e w' => e = .returned (.int .i64 (f (vx l k) (nx l k))) ∧ Below w1.heap.size w1 w')
    (hb : ∀ k, k ≤ l.length → -4611686018427387904 ≤ sumE l f k ∧ sumE l f k ≤ 4611686018427387904) :
    Calls Try.prog 45 #[v, .func (.func g) #[] #[]] w fun e w' => e = .returned (.int .i64 (sumE l f l.length)) ∧ Below w.heap.size w w' :=
  callsIn_wide.1 (total_in l f g eg v w hv hl hf hb)
end Go.Proofs.Ytliligehofjegaa
