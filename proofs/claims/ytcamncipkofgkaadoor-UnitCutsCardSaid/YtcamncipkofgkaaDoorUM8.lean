/- Several texts of layers 7 and 8, one behind the other: UntDecU, UntOf, UntPair, UntExm, UntEnc. -/
import Derived.Laws.Pointers
import Derived.Test.YtcamncipkofgkaaDoorUM7
/- UntDecU: The contract of decoder.unit, with its deferred recover. -/
namespace Go.Proofs.YtcamncipkofgkaaDoor
open Go.RowKit Go.Shelf Pln Unt Putlog
set_option maxRecDepth 100000 in
theorem catch_pan (b2 b3 : Nat) (x0 x1 x2 x3 x4 x5 y : Value) (u : TypeId) (pv : Value) (older : List PanicEntry) (w : World) (hz : w.heap[b2]? = some (.cells #[x0, x1, x2, x3, x4, x5] 27 (0, 0))) (he : w.heap[b3]? = some (.cells #[y] 51 (0, 0))) (hn : b2 ≠ b3) :
    CallsD Tryd.prog 92 #[.pointer (some ⟨b2, 0, none⟩), .pointer (some ⟨b3, 0, none⟩)] (.panicking ({ v := .iface u pv, recovered := false } :: older)) w fun e u' w' =>
      e = .returned (.tuple #[]) ∧ u' = .panicking ({ v := .iface u pv, recovered := true } :: older) ∧ w' = ((((((w.setCell ⟨b2, 0, none⟩ (.int .i64 0)).setCell ⟨b2, 1, none⟩ (.int .i64 0)).setCell ⟨b2, 2, none⟩ (.int .i64 0)).setCell ⟨b2, 3, none⟩ (.slice none 0 0)).setCell ⟨b2, 4, none⟩ (.int .i64 0)).setCell ⟨b2, 5, none⟩ (.int .i64 0)).setCell ⟨b3, 0, none⟩ (.int .i64 80) := by
  have c0 := cell_heap hz (i := 0) rfl
  have c1 := cell_heap hz (i := 1) rfl
  have c2 := cell_heap hz (i := 2) rfl
  have c3 := cell_heap hz (i := 3) rfl
  have c4 := cell_heap hz (i := 4) rfl
  have c5 := cell_heap hz (i := 5) rfl
  have f0 := frozen_of_row _ _ 0 _ _ hz
  have f1 := frozen_of_row _ _ 1 _ _ hz
  have f2 := frozen_of_row _ _ 2 _ _ hz
  have f3 := frozen_of_row _ _ 3 _ _ hz
  have f4 := frozen_of_row _ _ 4 _ _ hz
  have f5 := frozen_of_row _ _ 5 _ _ hz
  have d0 := cell_heap he (i := 0) rfl
  have g0 := frozen_of_row _ _ 0 _ _ he
  have hn' : b3 ≠ b2 := fun e => hn e.symm
  refine callsD_of_wpS Tryd.func92 rfl fun c₀ cs hu => ?_
  apply wpS_seq
  apply wpS_region
  simp [wpOpsS, go_sem, recoverD, hu, Tryd.ntmps92, Exit.thenS]
  refine wpS_cond (t := true) (by simp [Act.eval, Array.replicate]) ?_
  simp only [if_true]
  apply wpS_region
  simp [wpOpsS, go_sem, c0, c1, c2, c3, c4, c5, f0, f1, f2, f3, f4, f5, d0, g0, hn, hn', bodyPostS, results, Tryd.results92]
set_option maxRecDepth 100000 in
theorem catch_idle (p q : Value) (w : World) :
    CallsD Tryd.prog 92 #[p, q] .returning w fun e u' w' => e = .returned (.tuple #[]) ∧ u' = .returning ∧ w' = w := by
  refine callsD_of_wpS Tryd.func92 rfl fun c₀ cs hu => ?_
  apply wpS_seq
  apply wpS_region
  simp [wpOpsS, go_sem, recoverD, hu, Tryd.ntmps92, Exit.thenS]
  refine wpS_cond (t := false) (by simp [Act.eval, Array.replicate]) ?_
  simp only [Bool.false_eq_true, if_false]
  refine wpS_of_wp (wp_skip ?_)
  cases c₀
  simp_all [bodyPostS, results, Tryd.results92]
def five (S : List UInt8) : Option ((Int × Int × Int × Int × Int) × Nat) :=
  match rd S 0 with
  | none => none
  | some (a1, p1) => match rd S p1 with
    | none => none
    | some (a2, p2) => match rd S p2 with
      | none => none
      | some (a3, p3) => match rd S p3 with
        | none => none
        | some (a4, p4) => match rd S p4 with
          | none => none
          | some (a5, p5) => some ((a1, a2, a3, a4, a5), p5)
/-- What Decode answers. -/
def decU (S : List UInt8) : Option U := match five S with
  | none => none
  | some ((a1, a2, a3, a4, a5), p) => match shpP S p with
    | none => none
    | some (l, q) => if q = S.length ∧ valU ⟨a1, a2, a3, l, a4, a5⟩ = true then some ⟨a1, a2, a3, l, a4, a5⟩ else none
theorem dU1 {S : List UInt8}  (h : rd S 0 = none) : decU S = none := by simp [decU, five, h]
theorem dU2 {S : List UInt8} {a1 : Int} {p1 : Nat} (h1 : rd S 0 = some (a1, p1)) (h : rd S p1 = none) : decU S = none := by simp [decU, five, h1, h]
theorem dU3 {S : List UInt8} {a1 a2 : Int} {p1 p2 : Nat} (h1 : rd S 0 = some (a1, p1)) (h2 : rd S p1 = some (a2, p2)) (h : rd S p2 = none) : decU S = none := by simp [decU, five, h1, h2, h]
theorem dU4 {S : List UInt8} {a1 a2 a3 : Int} {p1 p2 p3 : Nat} (h1 : rd S 0 = some (a1, p1)) (h2 : rd S p1 = some (a2, p2)) (h3 : rd S p2 = some (a3, p3)) (h : rd S p3 = none) : decU S = none := by simp [decU, five, h1, h2, h3, h]
theorem dU5 {S : List UInt8} {a1 a2 a3 a4 : Int} {p1 p2 p3 p4 : Nat} (h1 : rd S 0 = some (a1, p1)) (h2 : rd S p1 = some (a2, p2)) (h3 : rd S p2 = some (a3, p3)) (h4 : rd S p3 = some (a4, p4)) (h : rd S p4 = none) : decU S = none := by simp [decU, five, h1, h2, h3, h4, h]
theorem dU6 {S : List UInt8} {a1 a2 a3 a4 a5 : Int} {p1 p2 p3 p4 p5 : Nat} (h1 : rd S 0 = some (a1, p1)) (h2 : rd S p1 = some (a2, p2)) (h3 : rd S p2 = some (a3, p3)) (h4 : rd S p3 = some (a4, p4)) (h5 : rd S p4 = some (a5, p5)) (h : shpP S p5 = none) : decU S = none := by simp [decU, five, h1, h2, h3, h4, h5, h]
theorem dU7 {S : List UInt8} {a1 a2 a3 a4 a5 : Int} {p1 p2 p3 p4 p5 : Nat} {l : List Pt} {q : Nat} (h1 : rd S 0 = some (a1, p1)) (h2 : rd S p1 = some (a2, p2)) (h3 : rd S p2 = some (a3, p3)) (h4 : rd S p3 = some (a4, p4)) (h5 : rd S p4 = some (a5, p5)) (h : shpP S p5 = some (l, q)) (hn : ¬ (q = S.length ∧ valU ⟨a1, a2, a3, l, a4, a5⟩ = true)) : decU S = none := by simp only [decU, five, h1, h2, h3, h4, h5, h]; rw [if_neg hn]
theorem dU8 {S : List UInt8} {a1 a2 a3 a4 a5 : Int} {p1 p2 p3 p4 p5 : Nat} {l : List Pt} {q : Nat} (h1 : rd S 0 = some (a1, p1)) (h2 : rd S p1 = some (a2, p2)) (h3 : rd S p2 = some (a3, p3)) (h4 : rd S p3 = some (a4, p4)) (h5 : rd S p4 = some (a5, p5)) (h : shpP S p5 = some (l, q)) (hn : q = S.length) (hv : valU ⟨a1, a2, a3, l, a4, a5⟩ = true) : decU S = some ⟨a1, a2, a3, l, a4, a5⟩ := by simp only [decU, five, h1, h2, h3, h4, h5, h]; rw [if_pos ⟨hn, hv⟩]
theorem but_row {d g : Nat} {w w' : World} {o : Obj} (h : ButB d w w') (hg : w.heap[g]? = some o) (hn : g ≠ d) : w'.heap[g]? = some o :=
  (h.g.block g (Array.getElem?_eq_some_iff.1 hg).1 (fun e => hn (by cases e; rfl))).trans hg
def zeroU' : Value := .agg #[.int .i64 0, .int .i64 0, .int .i64 0, .slice none 0 0, .int .i64 0, .int .i64 0]
theorem unit_pan {Q : Ending → World → Prop} {w : World} {b2 b3 : Nat} {tm : Array Value} {x0 x1 x2 x3 x4 x5 y : Value} (hz : w.heap[b2]? = some (.cells #[x0, x1, x2, x3, x4, x5] 27 (0, 0))) (he : w.heap[b3]? = some (.cells #[y] 51 (0, 0))) (hn : b2 ≠ b3)
    (hQ : Q (.returned (.tuple #[zeroU', .int .i64 80])) (((((((w.setCell ⟨b2, 0, none⟩ (.int .i64 0)).setCell ⟨b2, 1, none⟩ (.int .i64 0)).setCell ⟨b2, 2, none⟩ (.int .i64 0)).setCell ⟨b2, 3, none⟩ (.slice none 0 0)).setCell ⟨b2, 4, none⟩ (.int .i64 0)).setCell ⟨b2, 5, none⟩ (.int .i64 0)).setCell ⟨b3, 0, none⟩ (.int .i64 80)))
    (h2 : tm[2]?.getD undef = .pointer (some ⟨b2, 0, none⟩) := by rfl) (h3 : tm[3]?.getD undef = .pointer (some ⟨b3, 0, none⟩) := by rfl) :
    bodyPostD Tryd.prog Tryd.f64 Q (Exit.panic PN) { tmps := tm, defers := [{ target := Target.fn (Fn.func 92) #[.pointer (some ⟨b2, 0, none⟩), .pointer (some ⟨b3, 0, none⟩)], args := #[] }] } w := by
  have c0 := cell_heap hz (i := 0) rfl
  have c1 := cell_heap hz (i := 1) rfl
  have c2 := cell_heap hz (i := 2) rfl
  have c3 := cell_heap hz (i := 3) rfl
  have c4 := cell_heap hz (i := 4) rfl
  have c5 := cell_heap hz (i := 5) rfl
  have d0 := cell_heap he (i := 0) rfl
  have hn' : b3 ≠ b2 := fun e => hn e.symm
  unfold zeroU' at hQ
  refine leaves_cons (f := 92) (args := #[.pointer (some ⟨b2, 0, none⟩), .pointer (some ⟨b3, 0, none⟩)]) (by simp) (by simp [go_sem]) ?_
  refine (catch_pan b2 b3 x0 x1 x2 x3 x4 x5 y _ _ [] w hz he hn).mono ?_
  rintro e u' w'' ⟨rfl, rfl, rfl⟩
  simp [Leaves, settle, results, Tryd.results64, go_sem, h2, h3, c0, c1, c2, c3, c4, c5, d0, hn, hn']
  exact hQ
def DecR (d : Nat) (S : List UInt8) (w : World) (e : Ending) (w' : World) : Prop :=
  (∃ u r, decU S = some u ∧ e = .returned (.tuple #[uv u r, .int .i64 0]) ∧ PtsAt w' r u.shape ∧ (∀ k, r.ownBlock = some k → w.heap.size ≤ k) ∧ ButB d w w') ∨
  (decU S = none ∧ e = .returned (.tuple #[zeroU', .int .i64 80]) ∧ ButB d w w')
/-- A store into what lies above. -/
theorem ButB.high {d b i : Nat} {w w1 : World} {v : Value} (h : ButB d w w1) (hb : w.heap.size ≤ b) : ButB d w (w1.setCell ⟨b, i, none⟩ v) :=
  ⟨⟨h.g.os, h.g.tape, h.g.output, by have := h.g.size; simp [World.setCell]; exact this, fun j hj hne => (heap_setCell_other w1 ⟨b, i, none⟩ j v (by intro e; simp at e; omega)).trans (h.g.block j hj hne)⟩⟩
theorem ButB.sevens {d b2 b3 : Nat} {w w1 : World} {y0 y1 y2 y3 y4 y5 y6 : Value} (h : ButB d w w1) (h2 : w.heap.size ≤ b2) (h3 : w.heap.size ≤ b3) :
    ButB d w (((((((w1.setCell ⟨b2, 0, none⟩ (y0)).setCell ⟨b2, 1, none⟩ (y1)).setCell ⟨b2, 2, none⟩ (y2)).setCell ⟨b2, 3, none⟩ (y3)).setCell ⟨b2, 4, none⟩ (y4)).setCell ⟨b2, 5, none⟩ (y5)).setCell ⟨b3, 0, none⟩ y6) :=
  ((((((h.high h2).high h2).high h2).high h2).high h2).high h2).high h3
theorem sets_row {w : World} {b : Nat} {x0 x1 x2 x3 x4 x5 y0 y1 y2 y3 y4 y5 : Value} {t : TypeId} (h : w.heap[b]? = some (.cells #[x0, x1, x2, x3, x4, x5] t (0, 0))) :
    (((((((w.setCell ⟨b, 0, none⟩ (y0)).setCell ⟨b, 1, none⟩ (y1)).setCell ⟨b, 2, none⟩ (y2)).setCell ⟨b, 3, none⟩ (y3)).setCell ⟨b, 4, none⟩ (y4)).setCell ⟨b, 5, none⟩ (y5))).heap[b]? = some (.cells #[y0, y1, y2, y3, y4, y5] t (0, 0)) := by
  have h0 := heap_setCell_same w b 0 _ _ y0 h
  have h1 := heap_setCell_same _ b 1 _ _ y1 h0
  have h2 := heap_setCell_same _ b 2 _ _ y2 h1
  have h3 := heap_setCell_same _ b 3 _ _ y3 h2
  have h4 := heap_setCell_same _ b 4 _ _ y4 h3
  have h5 := heap_setCell_same _ b 5 _ _ y5 h4
  exact h5.trans rfl
theorem one_other {w : World} {b c i : Nat} {v : Value} (hn : c ≠ b) : (w.setCell ⟨b, i, none⟩ v).heap[c]? = w.heap[c]? := heap_setCell_other w ⟨b, i, none⟩ c v (by intro e; simp at e; omega)
theorem sets_other {w : World} {b c : Nat} {y0 y1 y2 y3 y4 y5 : Value} (hn : c ≠ b) :
    (((((((w.setCell ⟨b, 0, none⟩ (y0)).setCell ⟨b, 1, none⟩ (y1)).setCell ⟨b, 2, none⟩ (y2)).setCell ⟨b, 3, none⟩ (y3)).setCell ⟨b, 4, none⟩ (y4)).setCell ⟨b, 5, none⟩ (y5))).heap[c]? = w.heap[c]? :=
  (one_other hn).trans ((one_other hn).trans ((one_other hn).trans ((one_other hn).trans ((one_other hn).trans (one_other hn)))))
theorem ButB.sixes {d b2 : Nat} {w w1 : World} {y0 y1 y2 y3 y4 y5 : Value} (h : ButB d w w1) (h2 : w.heap.size ≤ b2) :
    ButB d w (((((((w1.setCell ⟨b2, 0, none⟩ (y0)).setCell ⟨b2, 1, none⟩ (y1)).setCell ⟨b2, 2, none⟩ (y2)).setCell ⟨b2, 3, none⟩ (y3)).setCell ⟨b2, 4, none⟩ (y4)).setCell ⟨b2, 5, none⟩ (y5))) := (((((h.high h2).high h2).high h2).high h2).high h2).high h2
theorem pts_set' {w : World} {b i : Nat} {r y : Value} {l : List Pt} (h : PtsAt w r l) (ho : ∀ k, r.ownBlock = some k → k ≠ b) : PtsAt (w.setCell ⟨b, i, none⟩ y) r l := by
  obtain ⟨⟨a, c', he, h1, h2, h3⟩, h4⟩ := h
  rcases h3 with h3 | ⟨g, o, h5, h6⟩
  · exact ⟨⟨a, c', he, h1, h2, .inl h3⟩, h4⟩
  · subst h5
    subst he
    exact pts_set ⟨⟨_, c', rfl, h1, h2, .inr ⟨g, o, rfl, h6⟩⟩, h4⟩ (ho g rfl)
theorem pts_sets {w : World} {b : Nat} {r y0 y1 y2 y3 y4 y5 : Value} {l : List Pt} (h : PtsAt w r l) (ho : ∀ k, r.ownBlock = some k → k ≠ b) : PtsAt (((((((w.setCell ⟨b, 0, none⟩ (y0)).setCell ⟨b, 1, none⟩ (y1)).setCell ⟨b, 2, none⟩ (y2)).setCell ⟨b, 3, none⟩ (y3)).setCell ⟨b, 4, none⟩ (y4)).setCell ⟨b, 5, none⟩ (y5))) r l :=
  pts_set' (pts_set' (pts_set' (pts_set' (pts_set' (pts_set' h ho) ho) ho) ho) ho) ho
theorem shp_some {S : List UInt8} {p : Nat} {l : List Pt} {q : Nat} (hp : p ≤ S.length) (h : shpP S p = some (l, q)) : l.length ≤ S.length ∧ q ≤ S.length := by
  unfold shpP at h
  rcases hr : rd S p with _ | ⟨n, q0⟩
  · rw [hr] at h; cases h
  · rw [hr] at h
    have h1 := rd_some hr hp
    have h2 := pairs_some h1.2.1 h
    omega
theorem unit_ret {Q : Ending → World → Prop} {w : World} {b2 b3 : Nat} {tm : Array Value} {x0 x1 x2 x3 x4 x5 y : Value} (hz : w.heap[b2]? = some (.cells #[x0, x1, x2, x3, x4, x5] 27 (0, 0))) (he : w.heap[b3]? = some (.cells #[y] 51 (0, 0)))
    (hQ : Q (.returned (.tuple #[.agg #[x0, x1, x2, x3, x4, x5], y])) w)
    (h2 : tm[2]?.getD undef = .pointer (some ⟨b2, 0, none⟩) := by rfl) (h3 : tm[3]?.getD undef = .pointer (some ⟨b3, 0, none⟩) := by rfl) :
    bodyPostD Tryd.prog Tryd.f64 Q Exit.ret { tmps := tm, defers := [{ target := Target.fn (Fn.func 92) #[.pointer (some ⟨b2, 0, none⟩), .pointer (some ⟨b3, 0, none⟩)], args := #[] }] } w := by
  have c0 := cell_heap hz (i := 0) rfl
  have c1 := cell_heap hz (i := 1) rfl
  have c2 := cell_heap hz (i := 2) rfl
  have c3 := cell_heap hz (i := 3) rfl
  have c4 := cell_heap hz (i := 4) rfl
  have c5 := cell_heap hz (i := 5) rfl
  have d0 := cell_heap he (i := 0) rfl
  refine leaves_cons (f := 92) (args := #[.pointer (some ⟨b2, 0, none⟩), .pointer (some ⟨b3, 0, none⟩)]) (by simp) (by simp [go_sem]) ?_
  refine (catch_idle _ _ w).mono ?_
  rintro e u' w'' ⟨rfl, rfl, rfl⟩
  simp [Leaves, settle, results, Tryd.results64, go_sem, h2, h3, c0, c1, c2, c3, c4, c5, d0]
  exact hQ
/-- A panic is told by the slots of the two boxes only. -/
def PanQ (Q0 : Exit → Act → World → Prop) (R : World → Prop) (b2 b3 : Nat) : Exit → Act → World → Prop
  | .panic c, a, w => c = PN ∧ a.tmps[2]?.getD undef = .pointer (some ⟨b2, 0, none⟩) ∧ a.tmps[3]?.getD undef = .pointer (some ⟨b3, 0, none⟩) ∧ a.defers = [{ target := Target.fn (Fn.func 92) #[.pointer (some ⟨b2, 0, none⟩), .pointer (some ⟨b3, 0, none⟩)], args := #[] }] ∧ R w
  | .normal, a, w => Q0 .normal a w
  | .ret, a, w => Q0 .ret a w
  | e, a, w => Q0 e a w
theorem panq_put {Q0 : Exit → Act → World → Prop} {R : World → Prop} {b2 b3 s : Nat} {v : Value} (h2 : s ≠ 2) (h3 : s ≠ 3) {c : List PanicEntry} {a : Act} {w : World} (h : PanQ Q0 R b2 b3 (.panic c) (a.put (some s) v) w) : PanQ Q0 R b2 b3 (.panic c) a w := by
  obtain ⟨r1, r2, r3, r4, r5⟩ := h
  refine ⟨r1, ?_, ?_, r4, r5⟩
  · rw [← r2]; simp only [Act.put]; rw [Array.getElem?_setIfInBounds_ne h2]
  · rw [← r3]; simp only [Act.put]; rw [Array.getElem?_setIfInBounds_ne h3]
def PanW (d : Nat) (S : List UInt8) (b2 b3 : Nat) (w0 w : World) : Prop :=
  (∃ x0 x1 x2 x3 x4 x5, w.heap[b2]? = some (.cells #[x0, x1, x2, x3, x4, x5] 27 (0, 0))) ∧ (∃ y, w.heap[b3]? = some (.cells #[y] 51 (0, 0))) ∧ ButB d w0 w ∧ decU S = none
theorem panq_imp {Q0 : Exit → Act → World → Prop} {d : Nat} {S : List UInt8} {b2 b3 : Nat} {w0 : World} (hn : b2 ≠ b3) (h2 : w0.heap.size ≤ b2) (h3 : w0.heap.size ≤ b3)
    (hp : ∀ a w, bodyPostD Tryd.prog Tryd.f64 (DecR d S w0) (.panic PN) a w → Q0 (.panic PN) a w) : ∀ e a w, PanQ Q0 (PanW d S b2 b3 w0) b2 b3 e a w → Q0 e a w := by
  intro e a w h
  cases e with
  | panic c =>
    obtain ⟨r1, r2, r3, r4, ⟨x0, x1, x2, x3, x4, x5, hz⟩, ⟨y, he⟩, hB, hno⟩ := h
    obtain ⟨tm, df⟩ := a
    dsimp only at r2 r3 r4
    subst r1
    subst r4
    exact hp _ _ (unit_pan hz he hn (.inr ⟨hno, rfl, hB.sevens h2 h3⟩) r2 r3)
  | _ => exact h
set_option maxRecDepth 100000 in
set_option maxHeartbeats 2000000 in
theorem decUnit_w (d : Nat) (S : List UInt8) (hS : S.length ≤ 1000) (w : World) (hd : DBox w d S ((0 : Nat) : Int)) :
    Calls Tryd.prog 64 #[.pointer (some ⟨d, 0, none⟩)] w (DecR d S w) := by
  have hmf : ∀ (fn : Fn) (first cap : Array Value) (w : World), (Instr.makeFunc fn first cap).run Tryd.prog w = .ok (.func fn first cap) w := fun _ _ _ _ => rfl
  have hdl : d < w.heap.size := lt_of_cell hd.c0
  obtain ⟨W1, hW1⟩ : ∃ W1, W1 = w.alloc (.cells #[.int .i64 0, .int .i64 0, .int .i64 0, .slice none 0 0, .int .i64 0, .int .i64 0] 27) := ⟨_, rfl⟩
  obtain ⟨W, hW⟩ : ∃ W, W = W1.alloc (.cells #[.int .i64 0] 51) := ⟨_, rfl⟩
  have hA1 : Below w.heap.size w W1 := by rw [hW1]; exact alloc_below _ _
  have hA2 : Below W1.heap.size W1 W := by rw [hW]; exact alloc_below _ _
  have hs1 : W1.heap.size = w.heap.size + 1 := by rw [hW1]; simp
  have hz : W.heap[w.heap.size]? = some (.cells #[.int .i64 0, .int .i64 0, .int .i64 0, .slice none 0 0, .int .i64 0, .int .i64 0] 27 (0, 0)) := heap_below hA2 (by rw [hW1]; exact heap_alloc_new _ _)
  have he : W.heap[w.heap.size + 1]? = some (.cells #[.int .i64 0] 51 (0, 0)) := by rw [← hs1, hW]; exact heap_alloc_new _ _
  have HZ0 := Lib.hid hz
  have HE0 := Lib.hid he
  have HD0 := Lib.hid ((hd.via hA1).via hA2)
  have HB0 := Lib.hid ((butRefl d w).below (belowStep hA1 hA2))
  have HND : Hid (w.heap.size ≠ d) := Lib.hid (by omega)
  have HNE : Hid (w.heap.size + 1 ≠ d) := Lib.hid (by omega)
  have HP0 : Hid (0 ≤ S.length) := Lib.hid (by omega)
  have HSS := Lib.hid hS
  rw [hW1] at hW
  clear hA1 hA2 hs1 hz he hd hW1
  go_enter_defers Tryd.func64, Tryd.ntmps64
  go_wp2_with fail
  rw [← hW]
  refine (rd_w d S 0 HSS.out HP0.out _ HD0.out).mono ?_
  rintro e w1 (⟨a1, p1, h, rfl, hdd, hbb⟩ | ⟨h, rfl, hbb⟩)
  rotate_left
  · have HNO : Hid (decU S = none) := Lib.hid (dU1 h)
    have HZ := Lib.hid (but_row hbb HZ0.out HND.out)
    have HE := Lib.hid (but_row hbb HE0.out HNE.out)
    have HB := Lib.hid (HB0.out.trans hbb)
    clear hbb h
    go_wp2_with fail
    exact unit_pan HZ.out HE.out (by omega) (.inr ⟨HNO.out, rfl, HB.out.sevens (Nat.le_refl _) (by omega)⟩)
  have HP1 := Lib.hid (rd_some h HP0.out).2.1
  have H1 := Lib.hid h
  have HZ1 := Lib.hid (but_row hbb HZ0.out HND.out)
  have HE1 := Lib.hid (but_row hbb HE0.out HNE.out)
  have HB1 := Lib.hid (HB0.out.trans hbb)
  have HD1 := Lib.hid hdd
  clear hbb h hdd
  go_wp2_with fail
  refine (rd_w d S p1 HSS.out HP1.out _ HD1.out).mono ?_
  rintro e w2 (⟨a2, p2, h, rfl, hdd, hbb⟩ | ⟨h, rfl, hbb⟩)
  rotate_left
  · have HNO : Hid (decU S = none) := Lib.hid (dU2 H1.out h)
    have HZ := Lib.hid (but_row hbb HZ1.out HND.out)
    have HE := Lib.hid (but_row hbb HE1.out HNE.out)
    have HB := Lib.hid (HB1.out.trans hbb)
    clear hbb h
    go_wp2_with fail
    exact unit_pan HZ.out HE.out (by omega) (.inr ⟨HNO.out, rfl, HB.out.sevens (Nat.le_refl _) (by omega)⟩)
  have HP2 := Lib.hid (rd_some h HP1.out).2.1
  have H2 := Lib.hid h
  have HZ2 := Lib.hid (but_row hbb HZ1.out HND.out)
  have HE2 := Lib.hid (but_row hbb HE1.out HNE.out)
  have HB2 := Lib.hid (HB1.out.trans hbb)
  have HD2 := Lib.hid hdd
  clear hbb h hdd
  go_wp2_with fail
  refine (rd_w d S p2 HSS.out HP2.out _ HD2.out).mono ?_
  rintro e w3 (⟨a3, p3, h, rfl, hdd, hbb⟩ | ⟨h, rfl, hbb⟩)
  rotate_left
  · have HNO : Hid (decU S = none) := Lib.hid (dU3 H1.out H2.out h)
    have HZ := Lib.hid (but_row hbb HZ2.out HND.out)
    have HE := Lib.hid (but_row hbb HE2.out HNE.out)
    have HB := Lib.hid (HB2.out.trans hbb)
    clear hbb h
    go_wp2_with fail
    exact unit_pan HZ.out HE.out (by omega) (.inr ⟨HNO.out, rfl, HB.out.sevens (Nat.le_refl _) (by omega)⟩)
  have HP3 := Lib.hid (rd_some h HP2.out).2.1
  have H3 := Lib.hid h
  have HZ3 := Lib.hid (but_row hbb HZ2.out HND.out)
  have HE3 := Lib.hid (but_row hbb HE2.out HNE.out)
  have HB3 := Lib.hid (HB2.out.trans hbb)
  have HD3 := Lib.hid hdd
  clear hbb h hdd
  go_wp2_with fail
  refine (rd_w d S p3 HSS.out HP3.out _ HD3.out).mono ?_
  rintro e w4 (⟨a4, p4, h, rfl, hdd, hbb⟩ | ⟨h, rfl, hbb⟩)
  rotate_left
  · have HNO : Hid (decU S = none) := Lib.hid (dU4 H1.out H2.out H3.out h)
    have HZ := Lib.hid (but_row hbb HZ3.out HND.out)
    have HE := Lib.hid (but_row hbb HE3.out HNE.out)
    have HB := Lib.hid (HB3.out.trans hbb)
    clear hbb h
    go_wp2_with fail
    exact unit_pan HZ.out HE.out (by omega) (.inr ⟨HNO.out, rfl, HB.out.sevens (Nat.le_refl _) (by omega)⟩)
  have HP4 := Lib.hid (rd_some h HP3.out).2.1
  have H4 := Lib.hid h
  have HZ4 := Lib.hid (but_row hbb HZ3.out HND.out)
  have HE4 := Lib.hid (but_row hbb HE3.out HNE.out)
  have HB4 := Lib.hid (HB3.out.trans hbb)
  have HD4 := Lib.hid hdd
  clear hbb h hdd
  go_wp2_with fail
  refine (rd_w d S p4 HSS.out HP4.out _ HD4.out).mono ?_
  rintro e w5 (⟨a5, p5, h, rfl, hdd, hbb⟩ | ⟨h, rfl, hbb⟩)
  rotate_left
  · have HNO : Hid (decU S = none) := Lib.hid (dU5 H1.out H2.out H3.out H4.out h)
    have HZ := Lib.hid (but_row hbb HZ4.out HND.out)
    have HE := Lib.hid (but_row hbb HE4.out HNE.out)
    have HB := Lib.hid (HB4.out.trans hbb)
    clear hbb h
    go_wp2_with fail
    exact unit_pan HZ.out HE.out (by omega) (.inr ⟨HNO.out, rfl, HB.out.sevens (Nat.le_refl _) (by omega)⟩)
  have HP5 := Lib.hid (rd_some h HP4.out).2.1
  have H5 := Lib.hid h
  have HZ5 := Lib.hid (but_row hbb HZ4.out HND.out)
  have HE5 := Lib.hid (but_row hbb HE4.out HNE.out)
  have HB5 := Lib.hid (HB4.out.trans hbb)
  have HD5 := Lib.hid hdd
  clear hbb h hdd
  have HSZ5 : Hid (w.heap.size + 2 ≤ w5.heap.size) := Lib.hid (by have := (Array.getElem?_eq_some_iff.1 HE5.out).1; omega)
  obtain ⟨W6, hW6⟩ : ∃ W6, W6 = ((((((w5.setCell ⟨w.heap.size, 0, none⟩ (.int .i64 a1)).setCell ⟨w.heap.size, 1, none⟩ (.int .i64 a2)).setCell ⟨w.heap.size, 2, none⟩ (.int .i64 a3)).setCell ⟨w.heap.size, 3, none⟩ (.slice none 0 0)).setCell ⟨w.heap.size, 4, none⟩ (.int .i64 a4)).setCell ⟨w.heap.size, 5, none⟩ (.int .i64 a5)) := ⟨_, rfl⟩
  have HZ6 := Lib.hid (sets_row (y0 := .int .i64 a1) (y1 := .int .i64 a2) (y2 := .int .i64 a3) (y3 := .slice none 0 0) (y4 := .int .i64 a4) (y5 := .int .i64 a5) HZ5.out)
  have HE6 : Hid (W6.heap[w.heap.size + 1]? = some (.cells #[.int .i64 0] 51 (0, 0))) := Lib.hid (by rw [hW6, sets_other (by omega)]; exact HE5.out)
  have HD6 : Hid (DBox W6 d S (p5 : Int)) := Lib.hid (by unfold DBox; rw [hW6, sets_other (Ne.symm HND.out)]; exact HD5.out)
  have HB6 : Hid (ButB d w W6) := Lib.hid (by rw [hW6]; exact HB5.out.sixes (Nat.le_refl _))
  rw [← hW6] at HZ6
  have c0 := cell_heap HZ5.out (i := 0) rfl
  have c1 := cell_heap HZ5.out (i := 1) rfl
  have c2 := cell_heap HZ5.out (i := 2) rfl
  have c3 := cell_heap HZ5.out (i := 3) rfl
  have c4 := cell_heap HZ5.out (i := 4) rfl
  have c5 := cell_heap HZ5.out (i := 5) rfl
  have f0 := frozen_of_row _ _ 0 _ _ HZ5.out
  have f1 := frozen_of_row _ _ 1 _ _ HZ5.out
  have f2 := frozen_of_row _ _ 2 _ _ HZ5.out
  have f3 := frozen_of_row _ _ 3 _ _ HZ5.out
  have f4 := frozen_of_row _ _ 4 _ _ HZ5.out
  have f5 := frozen_of_row _ _ 5 _ _ HZ5.out
  go_wp2_with fail
  rw [← hW6]
  clear c0 c1 c2 c3 c4 c5 f0 f1 f2 f3 f4 f5
  clear hW6
  refine (shape_w d S p5 HSS.out HP5.out _ HD6.out).mono ?_
  rintro e w7 (⟨l, q, r, h, rfl, hat, hdd, hbb, hown⟩ | ⟨h, rfl, hbb⟩)
  rotate_left
  · have HNO : Hid (decU S = none) := Lib.hid (dU6 H1.out H2.out H3.out H4.out H5.out h)
    have HZ := Lib.hid (but_row hbb HZ6.out HND.out)
    have HE := Lib.hid (but_row hbb HE6.out HNE.out)
    have HB := Lib.hid (HB6.out.trans hbb)
    clear hbb h
    go_wp2_with fail
    exact unit_pan HZ.out HE.out (by omega) (.inr ⟨HNO.out, rfl, HB.out.sevens (Nat.le_refl _) (by omega)⟩)
  obtain ⟨ra, rn, rc, hr⟩ : ∃ a n c, r = .slice a n c := by
    obtain ⟨⟨a, c', he, _⟩, _⟩ := hat
    exact ⟨_, _, _, he⟩
  subst hr
  have HSH := Lib.hid h
  have HLQ := Lib.hid (shp_some HP5.out h)
  have HZ7 := Lib.hid (but_row hbb HZ6.out HND.out)
  have HE7 := Lib.hid (but_row hbb HE6.out HNE.out)
  have HB7 := Lib.hid (HB6.out.trans hbb)
  have HOW : Hid (∀ k, (Value.slice ra rn rc).ownBlock = some k → w.heap.size + 2 ≤ k) := Lib.hid (fun k hk => by
    have h1 := hown k hk
    have h2 := (Array.getElem?_eq_some_iff.1 HE6.out).1
    omega)
  obtain ⟨W8, hW8⟩ : ∃ W8, W8 = w7.setCell ⟨w.heap.size, 3, none⟩ (.slice ra rn rc) := ⟨_, rfl⟩
  have HZ8 : Hid (W8.heap[w.heap.size]? = some (.cells #[.int .i64 a1, .int .i64 a2, .int .i64 a3, .slice ra rn rc, .int .i64 a4, .int .i64 a5] 27 (0, 0))) := Lib.hid (by rw [hW8]; exact (heap_setCell_same w7 w.heap.size 3 _ _ (.slice ra rn rc) HZ7.out).trans rfl)
  have HE8 : Hid (W8.heap[w.heap.size + 1]? = some (.cells #[.int .i64 0] 51 (0, 0))) := Lib.hid (by rw [hW8, one_other (by omega)]; exact HE7.out)
  have HD8 : Hid (DBox W8 d S (q : Int)) := Lib.hid (by unfold DBox; rw [hW8, one_other (Ne.symm HND.out)]; exact hdd)
  have HB8 : Hid (ButB d w W8) := Lib.hid (by rw [hW8]; exact HB7.out.high (Nat.le_refl _))
  have HA8 : Hid (PtsAt W8 (.slice ra rn rc) l) := Lib.hid (by rw [hW8]; exact pts_set' hat (fun k hk => by have := HOW.out k hk; omega))
  have c3 := cell_heap HZ7.out (i := 3) rfl
  have f3 := frozen_of_row _ _ 3 _ _ HZ7.out
  clear hbb h hdd hat hown
  go_upto_region 4 with fail
  rw [← hW8]
  clear c3 f3 hW8
  have HUA8 : Hid (UAt W8 (.slice ra rn rc) ⟨a1, a2, a3, l, a4, a5⟩) := Lib.hid (by
    have r1 := rd_some H1.out HP0.out
    have r2 := rd_some H2.out HP1.out
    have r3 := rd_some H3.out HP2.out
    have r4 := rd_some H4.out HP3.out
    have r5 := rd_some H5.out HP4.out
    have hl := HLQ.out.1
    exact ⟨⟨⟨by dsimp only; omega, by dsimp only; omega⟩, ⟨by dsimp only; omega, by dsimp only; omega⟩, ⟨by dsimp only; omega, by dsimp only; omega⟩, ⟨by dsimp only; omega, by dsimp only; omega⟩, ⟨by dsimp only; omega, by dsimp only; omega⟩, by unfold Len; dsimp only; omega⟩, HA8.out⟩)
  refine wp_mono ?_ (panq_imp (d := d) (S := S) (b2 := w.heap.size) (b3 := w.heap.size + 1) (w0 := w) (by omega) (Nat.le_refl _) (by omega) (fun _ _ h => h))
  refine (wpIn_wide (n := 5)).1 ?_
  refine wpIn_region_T (fun w' => Below W8.drew.heap.size W8.drew w') 15 (by kernel_rfl) ?_
  have hd : Below W8.heap.size W8 W8.drew := (Below.refl _ _).drew
  have HZD := Lib.hid (heap_below hd HZ8.out)
  have HED := Lib.hid (heap_below hd HE8.out)
  have HDD := Lib.hid (HD8.out.via hd)
  have HBD := Lib.hid (HB8.out.below hd)
  have HUD := Lib.hid (HUA8.out.via hd)
  clear hd
  generalize W8.drew = wd at *
  have e0 := HDD.out.c0
  have e1 := HDD.out.c1
  have b0 := cell_heap HZD.out (i := 0) rfl
  have b1 := cell_heap HZD.out (i := 1) rfl
  have b2 := cell_heap HZD.out (i := 2) rfl
  have b3 := cell_heap HZD.out (i := 3) rfl
  have b4 := cell_heap HZD.out (i := 4) rfl
  have b5 := cell_heap HZD.out (i := 5) rfl
  refine wpT_tk 0 19 (v := ?_) (Below.refl _ _) rfl rfl (by rfl) (hQ := fun _ _ _ h => panq_put (by decide) (by decide) h) (hy := fun w hw => ?_) (h := ?_)
  rotate_left
  · go_simp; with_reducible rfl
  try simp only [Act.put, List.setIfInBounds_toArray, List.set_cons_zero, List.set_cons_succ]
  refine wpT_tk 1 20 (v := ?_) (Below.refl _ _) rfl rfl (by rfl) (hQ := fun _ _ _ h => panq_put (by decide) (by decide) h) (hy := fun w hw => ?_) (h := ?_)
  rotate_left
  · go_simp; with_reducible rfl
  try simp only [Act.put, List.setIfInBounds_toArray, List.set_cons_zero, List.set_cons_succ]
  refine wpT_tk 2 21 (v := ?_) (Below.refl _ _) rfl rfl (by rfl) (hQ := fun _ _ _ h => panq_put (by decide) (by decide) h) (hy := fun w hw => ?_) (h := ?_)
  rotate_left
  · go_simp; with_reducible rfl
  try simp only [Act.put, List.setIfInBounds_toArray, List.set_cons_zero, List.set_cons_succ]
  refine wpT_tk 3 22 (v := ?_) (Below.refl _ _) rfl rfl (by rfl) (hQ := fun _ _ _ h => panq_put (by decide) (by decide) h) (hy := fun w hw => ?_) (h := ?_)
  rotate_left
  · go_simp; with_reducible rfl
  try simp only [Act.put, List.setIfInBounds_toArray, List.set_cons_zero, List.set_cons_succ]
  refine wpT_tk 4 23 (v := ?_) (Below.refl _ _) rfl rfl (by rfl) (hQ := fun _ _ _ h => panq_put (by decide) (by decide) h) (hy := fun w hw => ?_) (h := ?_)
  rotate_left
  · have e0 := keptBelow hw e0; have e1 := keptBelow hw e1; go_simp; with_reducible rfl
  try simp only [Act.put, List.setIfInBounds_toArray, List.set_cons_zero, List.set_cons_succ]
  refine wpT_tk 5 24 (v := ?_) (Below.refl _ _) rfl rfl (by rfl) (hQ := fun _ _ _ h => panq_put (by decide) (by decide) h) (hy := fun w hw => ?_) (h := ?_)
  rotate_left
  · go_simp; with_reducible rfl
  try simp only [Act.put, List.setIfInBounds_toArray, List.set_cons_zero, List.set_cons_succ]
  refine wpT_tk 6 25 (v := ?_) (Below.refl _ _) rfl rfl (by rfl) (hQ := fun _ _ _ h => panq_put (by decide) (by decide) h) (hy := fun w hw => ?_) (h := ?_)
  rotate_left
  · go_simp; with_reducible rfl
  try simp only [Act.put, List.setIfInBounds_toArray, List.set_cons_zero, List.set_cons_succ]
  refine wpT_tk 7 26 (v := ?_) (Below.refl _ _) rfl rfl (by rfl) (hQ := fun _ _ _ h => panq_put (by decide) (by decide) h) (hy := fun w hw => ?_) (h := ?_)
  rotate_left
  · go_simp; with_reducible rfl
  try simp only [Act.put, List.setIfInBounds_toArray, List.set_cons_zero, List.set_cons_succ]
  refine wpT_tk 8 27 (v := ?_) (Below.refl _ _) rfl rfl (by rfl) (hQ := fun _ _ _ h => panq_put (by decide) (by decide) h) (hy := fun w hw => ?_) (h := ?_)
  rotate_left
  · have e0 := keptBelow hw e0; have e1 := keptBelow hw e1; go_simp; with_reducible rfl
  try simp only [Act.put, List.setIfInBounds_toArray, List.set_cons_zero, List.set_cons_succ]
  refine wpT_tk 9 28 (v := ?_) (Below.refl _ _) rfl rfl (by rfl) (hQ := fun _ _ _ h => panq_put (by decide) (by decide) h) (hy := fun w hw => ?_) (h := ?_)
  rotate_left
  · go_simp; with_reducible rfl
  try simp only [Act.put, List.setIfInBounds_toArray, List.set_cons_zero, List.set_cons_succ]
  by_cases hq : q = S.length
  · subst hq
    refine wpT_tk 10 29 (v := ?_) (Below.refl _ _) rfl rfl (by rfl) (hQ := fun _ _ _ h => panq_put (by decide) (by decide) h) (hy := fun w hw => ?_) (h := ?_)
    rotate_left
    · go_simp; with_reducible rfl
    try simp only [Act.put, List.setIfInBounds_toArray, List.set_cons_zero, List.set_cons_succ]
    refine wpT_tk 11 30 (v := ?_) (Below.refl _ _) rfl rfl (by rfl) (hQ := fun _ _ _ h => panq_put (by decide) (by decide) h) (hy := fun w hw => ?_) (h := ?_)
    rotate_left
    · go_simp; with_reducible rfl
    try simp only [Act.put, List.setIfInBounds_toArray, List.set_cons_zero, List.set_cons_succ]
    refine wpT_tk 12 31 (v := ?_) (Below.refl _ _) rfl rfl (by rfl) (hQ := fun _ _ _ h => panq_put (by decide) (by decide) h) (hy := fun w hw => ?_) (h := ?_)
    rotate_left
    · have b0 := keptBelow hw b0; have b1 := keptBelow hw b1; have b2 := keptBelow hw b2; have b3 := keptBelow hw b3; have b4 := keptBelow hw b4; have b5 := keptBelow hw b5; go_simp; with_reducible rfl
    try simp only [Act.put, List.setIfInBounds_toArray, List.set_cons_zero, List.set_cons_succ]
    refine wpT_oneW 13 rfl (by rfl) (by kernel_rfl) ?_
    go_simp
    refine ⟨trivial, ?_⟩
    refine (callsIn_wide.2 (validU_w ⟨a1, a2, a3, l, a4, a5⟩ (.slice ra rn rc) wd HUD.out)).mono ?_
    rintro e u3 ⟨rfl, hB3⟩
    refine ⟨hB3, ?_⟩
    rcases hv : valU ⟨a1, a2, a3, l, a4, a5⟩ with _ | _
    · have HV := Lib.hid hv
      clear hv
      refine wpT_tk 14 33 (v := ?_) hB3 rfl rfl (by rfl) (hQ := fun _ _ _ h => panq_put (by decide) (by decide) h) (hy := fun w hw => ?_) (h := ?_)
      rotate_left
      · go_simp; with_reducible rfl
      try simp only [Act.put, List.setIfInBounds_toArray, List.set_cons_zero, List.set_cons_succ]
      refine wpT_oneW 15 rfl (by rfl) (by kernel_rfl) ?_
      go_simp
      refine ⟨trivial, ?_⟩
      refine (callsIn_wide.2 (require_no _ _)).mono ?_
      rintro e w4 ⟨rfl, rfl⟩
      have HNO : Hid (decU S = none) := Lib.hid (dU7 H1.out H2.out H3.out H4.out H5.out HSH.out (fun h => by rw [HV.out] at h; exact Bool.noConfusion h.2))
      exact ⟨rfl, rfl, rfl, rfl, ⟨_, _, _, _, _, _, heap_below hB3 HZD.out⟩, ⟨_, heap_below hB3 HED.out⟩, HBD.out.below hB3, HNO.out⟩
    · have HV := Lib.hid hv
      clear hv
      refine wpT_tk 14 33 (v := ?_) hB3 rfl rfl (by rfl) (hQ := fun _ _ _ h => panq_put (by decide) (by decide) h) (hy := fun w hw => ?_) (h := ?_)
      rotate_left
      · go_simp; with_reducible rfl
      try simp only [Act.put, List.setIfInBounds_toArray, List.set_cons_zero, List.set_cons_succ]
      refine wpT_oneW 15 rfl (by rfl) (by kernel_rfl) ?_
      go_simp
      refine ⟨trivial, ?_⟩
      refine (callsIn_wide.2 (require_ok _ _)).mono ?_
      rintro e w4 ⟨rfl, rfl⟩
      refine wpT_done (by kernel_rfl) ?_ _
      simp only [PanQ]
      have HSM := Lib.hid (dU8 H1.out H2.out H3.out H4.out H5.out HSH.out rfl HV.out)
      have HZ9 := Lib.hid (heap_below hB3 HZD.out)
      have HE9 := Lib.hid (heap_below hB3 HED.out)
      have HB9 := Lib.hid (HBD.out.below hB3)
      have HU9 := Lib.hid (HUD.out.via hB3)
      clear hB3 e0 e1 b0 b1 b2 b3 b4 b5
      have c0 := cell_heap HZ9.out (i := 0) rfl
      have c1 := cell_heap HZ9.out (i := 1) rfl
      have c2 := cell_heap HZ9.out (i := 2) rfl
      have c3 := cell_heap HZ9.out (i := 3) rfl
      have c4 := cell_heap HZ9.out (i := 4) rfl
      have c5 := cell_heap HZ9.out (i := 5) rfl
      have f0 := frozen_of_row _ _ 0 _ _ HZ9.out
      have f1 := frozen_of_row _ _ 1 _ _ HZ9.out
      have f2 := frozen_of_row _ _ 2 _ _ HZ9.out
      have f3 := frozen_of_row _ _ 3 _ _ HZ9.out
      have f4 := frozen_of_row _ _ 4 _ _ HZ9.out
      have f5 := frozen_of_row _ _ 5 _ _ HZ9.out
      have d0 := cell_heap HE9.out (i := 0) rfl
      have g0 := frozen_of_row _ _ 0 _ _ HE9.out
      go_wp2_with fail
      exact unit_ret ((one_other (by omega)).trans (sets_row HZ9.out)) ((heap_setCell_same _ (w.heap.size + 1) 0 _ _ _ ((sets_other (by omega)).trans HE9.out)).trans rfl) (.inl ⟨⟨a1, a2, a3, l, a4, a5⟩, .slice ra rn rc, HSM.out, rfl, pts_set' (pts_sets HU9.out.at_ (fun k hk => by have := HOW.out k hk; omega)) (fun k hk => by have := HOW.out k hk; omega), fun k hk => by have := HOW.out k hk; omega, HB9.out.sevens (Nat.le_refl _) (by omega)⟩)
  · have hq1 : (((q : Nat) : Int) == ((S.length : Nat) : Int)) = false := by simp; omega
    have hq2 : decide (((q : Nat) : Int) = ((S.length : Nat) : Int)) = false := by simp; omega
    have HQ := Lib.hid hq
    clear hq
    refine wpT_tk 10 29 (v := ?_) (Below.refl _ _) rfl rfl (by rfl) (hQ := fun _ _ _ h => panq_put (by decide) (by decide) h) (hy := fun w hw => ?_) (h := ?_)
    rotate_left
    · go_simp; with_reducible rfl
    try simp only [Act.put, List.setIfInBounds_toArray, List.set_cons_zero, List.set_cons_succ]
    refine wpT_tk 11 30 (v := ?_) (Below.refl _ _) rfl rfl (by rfl) (hQ := fun _ _ _ h => panq_put (by decide) (by decide) h) (hy := fun w hw => ?_) (h := ?_)
    rotate_left
    · go_simp; with_reducible rfl
    try simp only [Act.put, List.setIfInBounds_toArray, List.set_cons_zero, List.set_cons_succ]
    refine wpT_skipone 12 rfl (by rfl) (by kernel_rfl) (fun _ _ => trivial) ⟨fun _ => Below.refl _ _, ?_⟩
    try simp only [Act.put, List.setIfInBounds_toArray, List.set_cons_zero, List.set_cons_succ]
    refine wpT_skipone 13 rfl (by rfl) (by kernel_rfl) (fun _ _ => trivial) ⟨fun _ => Below.refl _ _, ?_⟩
    try simp only [Act.put, List.setIfInBounds_toArray, List.set_cons_zero, List.set_cons_succ]
    refine wpT_tk 14 33 (v := ?_) (Below.refl _ _) rfl rfl (by rfl) (hQ := fun _ _ _ h => panq_put (by decide) (by decide) h) (hy := fun w hw => ?_) (h := ?_)
    rotate_left
    · go_simp; with_reducible rfl
    try simp only [Act.put, List.setIfInBounds_toArray, List.set_cons_zero, List.set_cons_succ]
    refine wpT_oneW 15 rfl (by rfl) (by kernel_rfl) ?_
    go_simp
    refine ⟨trivial, ?_⟩
    refine (callsIn_wide.2 (require_no _ _)).mono ?_
    rintro e w4 ⟨rfl, rfl⟩
    have HNO : Hid (decU S = none) := Lib.hid (dU7 H1.out H2.out H3.out H4.out H5.out HSH.out (fun h => HQ.out h.1))
    exact ⟨rfl, rfl, rfl, rfl, ⟨_, _, _, _, _, _, heap_below (Below.refl _ _) HZD.out⟩, ⟨_, heap_below (Below.refl _ _) HED.out⟩, HBD.out.below (Below.refl _ _), HNO.out⟩
end Go.Proofs.YtcamncipkofgkaaDoor
/- UntOf: The contract of the reference's Of. -/
namespace Unt
open Pln
def ofU (id : Int) (l : List Pt) (x0 x1 x2 x3 : Int) : U := ⟨Go.Proofs.YtcamncipkofgkaaDoor.pkN id 100, 1 + Go.Proofs.YtcamncipkofgkaaDoor.pkN x0 8, Go.Proofs.YtcamncipkofgkaaDoor.pkN x1 8, l, Go.Proofs.YtcamncipkofgkaaDoor.pkN x2 8, Go.Proofs.YtcamncipkofgkaaDoor.pkN x2 8 + 1 + Go.Proofs.YtcamncipkofgkaaDoor.pkN x3 (8 - Go.Proofs.YtcamncipkofgkaaDoor.pkN x2 8)⟩
theorem ofU_val (id : Int) {l : List Pt} (v : Val l) (x0 x1 x2 x3 : Int) : ValU (ofU id l x0 x1 x2 x3) := by
  have h1 := Go.Proofs.YtcamncipkofgkaaDoor.pkN_in (c := id) (n := 100) (by omega)
  have h2 := Go.Proofs.YtcamncipkofgkaaDoor.pkN_in (c := x0) (n := 8) (by omega)
  have h3 := Go.Proofs.YtcamncipkofgkaaDoor.pkN_in (c := x1) (n := 8) (by omega)
  have h4 := Go.Proofs.YtcamncipkofgkaaDoor.pkN_in (c := x2) (n := 8) (by omega)
  have h5 := Go.Proofs.YtcamncipkofgkaaDoor.pkN_in (c := x3) (n := 8 - Go.Proofs.YtcamncipkofgkaaDoor.pkN x2 8) (by omega)
  unfold ofU
  exact ⟨h1.1, by dsimp only; omega, by dsimp only; omega, by dsimp only; omega, h3.1, by dsimp only; omega, h4.1, by dsimp only; omega, by dsimp only; omega, v⟩
end Unt
namespace Go.Proofs.YtcamncipkofgkaaDoor
open Go.RowKit Go.Shelf Pln Unt
def OfR (id : Int) (l : List Pt) (x0 x1 x2 x3 : Int) (w : World) (e : Ending) (w' : World) : Prop :=
  ∃ r, e = .returned (uv (ofU id l x0 x1 x2 x3) r) ∧ PtsAt w' r l ∧ (∀ k, r.ownBlock = some k → w.heap.size ≤ k) ∧ Below w.heap.size w w'
theorem own_not_unit {W : World} {base n b : Nat} {v : Value} {xs : List Value} {c : Array Value} (h : W.ownsRow base 38 2 v n xs) (hb : W.heap[b]? = some (.cells c 27 (0, 0))) : ∀ k, v.ownBlock = some k → k ≠ b := by
  rintro k hk rfl
  rcases h.2 with ⟨rfl, _⟩ | ⟨g, cap, cur, rfl, _, hr, _⟩
  · cases hk
  · cases hk
    rw [hb] at hr
    simp at hr
theorem of_end {W : World} {b : Nat} {x0 x1 x2 x3 x4 x5 : Value} {tm : Array Value} {Q : Ending → World → Prop} (hz : W.heap[b]? = some (.cells #[x0, x1, x2, x3, x4, x5] 27 (0, 0)))
    (hQ : Q (.returned (.agg #[x0, x1, x2, x3, x4, x5])) W)
    (h4 : tm[6]?.getD undef = .pointer (some ⟨b, 0, none⟩) := by rfl) :
    bodyPost Tryd.prog Tryd.f44 Q Exit.ret { tmps := tm, defers := [] } W := by
  have z0 := cell_heap hz (i := 0) rfl
  have z1 := cell_heap hz (i := 1) rfl
  have z2 := cell_heap hz (i := 2) rfl
  have z3 := cell_heap hz (i := 3) rfl
  have z4 := cell_heap hz (i := 4) rfl
  have z5 := cell_heap hz (i := 5) rfl
  exact bodyPost_ret (v := .agg #[x0, x1, x2, x3, x4, x5]) (by simp [results, Tryd.results44, go_sem, h4, z0, z1, z2, z3, z4, z5]) rfl hQ
set_option maxRecDepth 100000 in
set_option maxHeartbeats 2000000 in
theorem of_w (id : Int) (l : List Pt) (x0 x1 x2 x3 : Int) (hid : I64 id) (h0 : I64 x0) (h1 : I64 x1) (h2 : I64 x2) (h3 : I64 x3) (vl : Val l) (s : Value) (w : World) (hs : PtsAt w s l) :
    Calls Tryd.prog 44 #[.int .i64 id, s, .agg #[.int .i64 x0, .int .i64 x1, .int .i64 x2, .int .i64 x3]] w (OfR id l x0 x1 x2 x3 w) := by
  obtain ⟨W1, hW1⟩ : ∃ W1, W1 = w.alloc (.cells #[.int .i64 x0, .int .i64 x1, .int .i64 x2, .int .i64 x3] 23) := ⟨_, rfl⟩
  obtain ⟨W, hW⟩ : ∃ W, W = W1.alloc (.cells #[.int .i64 0, .int .i64 0, .int .i64 0, .slice none 0 0, .int .i64 0, .int .i64 0] 27) := ⟨_, rfl⟩
  have hA1 : Below w.heap.size w W1 := by rw [hW1]; exact alloc_below _ _
  have hA2 : Below W1.heap.size W1 W := by rw [hW]; exact alloc_below _ _
  have hs1 : W1.heap.size = w.heap.size + 1 := by rw [hW1]; simp
  have hx : W.heap[w.heap.size]? = some (.cells #[.int .i64 x0, .int .i64 x1, .int .i64 x2, .int .i64 x3] 23 (0, 0)) := heap_below hA2 (by rw [hW1]; exact heap_alloc_new _ _)
  have hz : W.heap[w.heap.size + 1]? = some (.cells #[.int .i64 0, .int .i64 0, .int .i64 0, .slice none 0 0, .int .i64 0, .int .i64 0] 27 (0, 0)) := by rw [← hs1, hW]; exact heap_alloc_new _ _
  have HX := Lib.hid hx
  have HZ := Lib.hid hz
  have HB := Lib.hid (belowStep hA1 hA2)
  have HS2 : Hid (W.heap.size = w.heap.size + 2) := Lib.hid (by rw [hW]; simp [hs1])
  have HPI := Lib.hid (fun w1 => pickR8_w id 100 hid (by omega) (by omega) w1)
  have HP0 := Lib.hid (fun w1 => pickR8_w x0 8 h0 (by omega) (by omega) w1)
  have HP1 := Lib.hid (fun w1 => pickR8_w x1 8 h1 (by omega) (by omega) w1)
  have HP2 := Lib.hid (fun w1 => pickR8_w x2 8 h2 (by omega) (by omega) w1)
  have HE : Hid (ofU id l x0 x1 x2 x3 = ⟨pkN id 100, 1 + pkN x0 8, pkN x1 8, l, pkN x2 8, pkN x2 8 + 1 + pkN x3 (8 - pkN x2 8)⟩) := Lib.hid rfl
  have b0 := pkN_in (c := x0) (n := 8) (by omega)
  have b2 := pkN_in (c := x2) (n := 8) (by omega)
  have b3 := pkN_in (c := x3) (n := 8 - pkN x2 8) (by omega)
  have HP3 := Lib.hid (fun w1 => pickR8_w x3 (8 - pkN x2 8) h3 (by omega) (by omega) w1)
  generalize pkN x3 (8 - pkN x2 8) = k3 at *
  generalize pkN x2 8 = k2 at *
  generalize pkN x1 8 = k1 at *
  generalize pkN x0 8 = k0 at *
  generalize pkN id 100 = kid at *
  obtain ⟨b0, b0'⟩ := b0
  obtain ⟨b2, b2'⟩ := b2
  obtain ⟨b3, b3'⟩ := b3
  have HAT := Lib.hid hs
  have HV := Lib.hid vl
  have hl1 := vl.lo
  have hl2 := vl.hi
  obtain ⟨g, o, sc, he, _⟩ := at_some hs (by omega)
  subst he
  obtain ⟨i0, hi, hz0, hz1, hz2⟩ := info_parts info_pt
  have HI := Lib.hid hi
  have HY0 := Lib.hid hz0
  have HY1 := Lib.hid hz1
  have HY2 := Lib.hid hz2
  rw [hW1] at hW
  clear hi hz0 hz1 hz2 hA1 hA2 hs1 hx hz hW1 hid h0 h1 h2 h3 hs vl
  go_enter Tryd.func44, Tryd.ntmps44
  go_upto_region 1 with fail
  rw [← hW]
  clear hW
  go_cut [7] (fun x7 wc => ∃ (b7 : Nat) (a : Option Addr) (n c : Nat), x7 = .pointer (some ⟨b7, 0, none⟩) ∧ w.heap.size + 2 ≤ b7 ∧ wc.heap[b7]? = some (.cells #[.int .i64 kid, .int .i64 (1 + k0), .int .i64 k1, .slice a n c, .int .i64 k2, .int .i64 0] 27 (0, 0)) ∧ PtsAt wc (.slice a n c) l ∧ (∀ k, (Value.slice a n c).ownBlock = some k → w.heap.size + 2 ≤ k ∧ k ≠ b7) ∧ Below W.heap.size W wc)
  case first =>
    refine (wpIn_wide (n := 5)).1 ?_
    refine wpIn_region_T (fun w' => Below W.drew.heap.size W.drew w') 17 (by kernel_rfl) ?_
    have hd : Below W.heap.size W W.drew := (Below.refl _ _).drew
    have HXD := Lib.hid (heap_below hd HX.out)
    have HZD := Lib.hid (heap_below hd HZ.out)
    have HBD := Lib.hid (belowStep HB.out hd)
    have HWD := Lib.hid hd
    have HAD := Lib.hid (HAT.out.via HBD.out)
    have HSD : Hid (w.heap.size + 2 ≤ W.drew.heap.size) := Lib.hid (by have := hd.size; have := HS2.out; omega)
    clear hd
    generalize W.drew = wd at *
    have hw1 : IntKind.i64.wrap (1 + k0) = 1 + k0 := IntWalk.i64_in _ (by omega)
    have c0 := cell_heap HXD.out (i := 0) rfl
    have c1 := cell_heap HXD.out (i := 1) rfl
    have c2 := cell_heap HXD.out (i := 2) rfl
    have c3 := cell_heap HXD.out (i := 3) rfl
    refine wpT_tk 0 8 (v := ?_) (Below.refl _ _) rfl rfl (by rfl) (hy := fun w hw => ?_) (h := ?_)
    rotate_left
    · go_simp; with_reducible rfl
    try simp only [Act.put, List.setIfInBounds_toArray, List.set_cons_zero, List.set_cons_succ]
    refine wpT_call 1 9 (v := .int .i64 kid) (Below.refl _ _) rfl rfl (by rfl) (f := 45) (args := #[.int .i64 id, .int .i64 100]) (hrun := fun w hw => ?_) (hdp := by decide) (hc := fun w hw => (callsIn_wide.2 (HPI.out _)).mono (fun e w' h => ⟨h.1, h.2.symm⟩)) (h := ?_)
    · go_simp
    try simp only [Act.put, List.setIfInBounds_toArray, List.set_cons_zero, List.set_cons_succ]
    refine wpT_tk 2 10 (v := ?_) (Below.refl _ _) rfl rfl (by rfl) (hy := fun w hw => ?_) (h := ?_)
    rotate_left
    · go_simp; with_reducible rfl
    try simp only [Act.put, List.setIfInBounds_toArray, List.set_cons_zero, List.set_cons_succ]
    refine wpT_tk 3 11 (v := ?_) (Below.refl _ _) rfl rfl (by rfl) (hy := fun w hw => ?_) (h := ?_)
    rotate_left
    · have c0 := keptBelow hw c0; have c1 := keptBelow hw c1; have c2 := keptBelow hw c2; have c3 := keptBelow hw c3; go_simp; with_reducible rfl
    try simp only [Act.put, List.setIfInBounds_toArray, List.set_cons_zero, List.set_cons_succ]
    refine wpT_call 4 12 (v := .int .i64 k0) (Below.refl _ _) rfl rfl (by rfl) (f := 45) (args := #[.int .i64 x0, .int .i64 8]) (hrun := fun w hw => ?_) (hdp := by decide) (hc := fun w hw => (callsIn_wide.2 (HP0.out _)).mono (fun e w' h => ⟨h.1, h.2.symm⟩)) (h := ?_)
    · go_simp
    try simp only [Act.put, List.setIfInBounds_toArray, List.set_cons_zero, List.set_cons_succ]
    refine wpT_tk 5 13 (v := ?_) (Below.refl _ _) rfl rfl (by rfl) (hy := fun w hw => ?_) (h := ?_)
    rotate_left
    · go_simp; with_reducible rfl
    try simp only [Act.put, List.setIfInBounds_toArray, List.set_cons_zero, List.set_cons_succ]
    refine wpT_tk 6 14 (v := ?_) (Below.refl _ _) rfl rfl (by rfl) (hy := fun w hw => ?_) (h := ?_)
    rotate_left
    · go_simp; with_reducible rfl
    try simp only [Act.put, List.setIfInBounds_toArray, List.set_cons_zero, List.set_cons_succ]
    refine wpT_tk 7 15 (v := ?_) (Below.refl _ _) rfl rfl (by rfl) (hy := fun w hw => ?_) (h := ?_)
    rotate_left
    · have c0 := keptBelow hw c0; have c1 := keptBelow hw c1; have c2 := keptBelow hw c2; have c3 := keptBelow hw c3; go_simp; with_reducible rfl
    try simp only [Act.put, List.setIfInBounds_toArray, List.set_cons_zero, List.set_cons_succ]
    refine wpT_call 8 16 (v := .int .i64 k1) (Below.refl _ _) rfl rfl (by rfl) (f := 45) (args := #[.int .i64 x1, .int .i64 8]) (hrun := fun w hw => ?_) (hdp := by decide) (hc := fun w hw => (callsIn_wide.2 (HP1.out _)).mono (fun e w' h => ⟨h.1, h.2.symm⟩)) (h := ?_)
    · go_simp
    try simp only [Act.put, List.setIfInBounds_toArray, List.set_cons_zero, List.set_cons_succ]
    refine wpT_tk 10 18 (v := ?_) (Below.refl _ _) rfl rfl (by rfl) (hy := fun w hw => ?_) (h := ?_)
    rotate_left
    · go_simp; with_reducible rfl
    try simp only [Act.put, List.setIfInBounds_toArray, List.set_cons_zero, List.set_cons_succ]
    refine wpT_tk 12 20 (v := ?_) (Below.refl _ _) rfl rfl (by rfl) (hy := fun w hw => ?_) (h := ?_)
    rotate_left
    · go_simp; with_reducible rfl
    try simp only [Act.put, List.setIfInBounds_toArray, List.set_cons_zero, List.set_cons_succ]
    refine wpT_tk 13 21 (v := ?_) (Below.refl _ _) rfl rfl (by rfl) (hy := fun w hw => ?_) (h := ?_)
    rotate_left
    · have c0 := keptBelow hw c0; have c1 := keptBelow hw c1; have c2 := keptBelow hw c2; have c3 := keptBelow hw c3; go_simp; with_reducible rfl
    try simp only [Act.put, List.setIfInBounds_toArray, List.set_cons_zero, List.set_cons_succ]
    refine wpT_two 9 16 rfl rfl (by rfl) (by rfl) (by kernel_rfl) ?_ ?_
    · obtain ⟨X, hX⟩ : ∃ X, X = wd.alloc (.cells #[] 38) := ⟨_, rfl⟩
      have HEM : Hid (X.ownsRow wd.heap.size 38 2 (.slice (some ⟨wd.heap.size, 0, none⟩) 0 0) 0 []) := Lib.hid (by rw [hX]; exact empty_own wd)
      have HBX : Hid (Below wd.heap.size wd X) := Lib.hid (by rw [hX]; exact alloc_below _ _)
      have HSX : Hid (wd.heap.size ≤ X.heap.size) := Lib.hid HBX.out.size
      have HBS : Hid (wd.heap.size ≤ wd.heap.size) := Lib.hid (Nat.le_refl _)
      go_simp
      rw [← hX]
      refine ⟨HBX.out, ?_⟩
      clear hX
      refine wpT_two 11 16 rfl rfl (by rfl) (by rfl) (by kernel_rfl) ?_ ?_
      · skip
        have HN := Lib.hid (news_in (w := X) (g := g) (o := o) (l := l) (fun j hj => (at_cells (HAD.out.via HBX.out)).2.2.2 j hj))
        have HAP := Lib.hid (app_ok (n := 0) (m := l.length) (by omega))
        refine wpIn_append_own _ _ 25 rfl (wd.heap.size) 38 i0 (.agg #[.int .i64 0, .int .i64 0]) 2 16 Tryd.underlying25 HI.out HY0.out HY1.out HY2.out rfl (by decide) _ 0 [] rfl HEM.out ⟨g, o, none⟩ l.length sc (cellsP l) rfl (cellsP_len l) HN.out (cellsP_one _) HAP.out.1 HAP.out.2 HSX.out ?_
        intro v5 w5 hown5 hgrow5
        have HB5 := Lib.hid (below_grown HBX.out hgrow5 (fun k hk => Nat.le_trans HBS.out (own_lt HEM.out k hk).1))
        rw [List.nil_append, Nat.zero_add] at hown5
        have HO5 := Lib.hid hown5
        have HK5 := Lib.hid (fun k hk => Nat.le_trans HBS.out (own_lt hown5 k hk).1)
        refine ⟨fun _ => HB5.out, ?_⟩
        refine wpT_call 14 22 (v := .int .i64 k2) HB5.out rfl rfl (by rfl) (f := 45) (args := #[.int .i64 x2, .int .i64 8]) (hrun := fun w hw => ?_) (hdp := by decide) (hc := fun w hw => (callsIn_wide.2 (HP2.out _)).mono (fun e w' h => ⟨h.1, h.2.symm⟩)) (h := ?_)
        · go_simp
        try simp only [Act.put, List.setIfInBounds_toArray, List.set_cons_zero, List.set_cons_succ]
        have HPT := Lib.hid (owns_at HO5.out (val_ok HV.out))
        obtain ⟨⟨a5, c5, he, _⟩, _⟩ := HPT.out
        subst he
        refine wpT_tk 15 23 (v := ?_) HB5.out rfl rfl (by rfl) (hy := fun w hw => ?_) (h := ?_)
        rotate_left
        · go_simp; with_reducible rfl
        try simp only [Act.put, List.setIfInBounds_toArray, List.set_cons_zero, List.set_cons_succ]
        clear c0 c1 c2 c3 hgrow5 hown5
        obtain ⟨Y, hY⟩ : ∃ Y, Y = w5.alloc (.cells #[.int .i64 0, .int .i64 0, .int .i64 0, .slice none 0 0, .int .i64 0, .int .i64 0] 27) := ⟨_, rfl⟩
        obtain ⟨b7, hb7⟩ : ∃ b7, b7 = w5.heap.size := ⟨_, rfl⟩
        have HR7 : Hid (Y.heap[b7]? = some (.cells #[.int .i64 0, .int .i64 0, .int .i64 0, .slice none 0 0, .int .i64 0, .int .i64 0] 27 (0, 0))) := Lib.hid (by rw [hY, hb7]; exact heap_alloc_new _ _)
        have HBY : Hid (Below wd.heap.size wd Y) := Lib.hid (by rw [hY]; exact belowStep HB5.out (alloc_below _ _))
        have HOY : Hid (Y.ownsRow _ 38 2 _ _ _) := Lib.hid (by rw [hY]; exact own_via HO5.out (alloc_below _ _))
        have HS7 : Hid (wd.heap.size ≤ b7) := Lib.hid (by rw [hb7]; exact HB5.out.size)
        refine wpT_oneW 16 rfl (by rfl) (by kernel_rfl) ?_
        go_simp
        rw [← hY, ← hb7]
        refine ⟨HBY.out, ?_⟩
        clear hY hb7
        have d0 := cell_heap HR7.out (i := 0) rfl
        have d1 := cell_heap HR7.out (i := 1) rfl
        have d2 := cell_heap HR7.out (i := 2) rfl
        have d3 := cell_heap HR7.out (i := 3) rfl
        have d4 := cell_heap HR7.out (i := 4) rfl
        have d5 := cell_heap HR7.out (i := 5) rfl
        have f0 := frozen_of_row _ _ 0 _ _ HR7.out
        have f1 := frozen_of_row _ _ 1 _ _ HR7.out
        have f2 := frozen_of_row _ _ 2 _ _ HR7.out
        have f3 := frozen_of_row _ _ 3 _ _ HR7.out
        have f4 := frozen_of_row _ _ 4 _ _ HR7.out
        have f5 := frozen_of_row _ _ 5 _ _ HR7.out
        refine wpT_oneW 17 rfl (by rfl) (by kernel_rfl) ?_
        go_simp
        refine wpT_done (by kernel_rfl) ?_ _
        have HNB := Lib.hid (own_not_unit HOY.out HR7.out)
        have HPY := Lib.hid (owns_at HOY.out (val_ok HV.out))
        go_wp2_with fail
        go_meet
        case rel => exact ⟨b7, _, _, _, rfl, by have := HS7.out; have := HSD.out; omega, sets_row HR7.out, pts_sets HPY.out HNB.out, fun k hk => ⟨by have := HK5.out k hk; have := HSD.out; omega, HNB.out k hk⟩, belowStep HWD.out (((((((HBY.out.setCell (p := ⟨b7, 0, none⟩) HS7.out _).setCell (p := ⟨b7, 1, none⟩) HS7.out _).setCell (p := ⟨b7, 2, none⟩) HS7.out _).setCell (p := ⟨b7, 3, none⟩) HS7.out _).setCell (p := ⟨b7, 4, none⟩) HS7.out _).setCell (p := ⟨b7, 5, none⟩) HS7.out _))⟩
      · obtain ⟨X2, hX2⟩ : ∃ X2, X2 = X.alloc (.cells #[.int .i64 0, .int .i64 0, .int .i64 0, .slice none 0 0, .int .i64 0, .int .i64 0] 27) := ⟨_, rfl⟩
        obtain ⟨b7, hb7⟩ : ∃ b7, b7 = X.heap.size := ⟨_, rfl⟩
        have HRX : Hid (X2.heap[b7]? = some (.cells #[.int .i64 0, .int .i64 0, .int .i64 0, .slice none 0 0, .int .i64 0, .int .i64 0] 27 (0, 0))) := Lib.hid (by rw [hX2, hb7]; exact heap_alloc_new _ _)
        have HB7 : Hid (wd.heap.size ≤ b7) := Lib.hid (by rw [hb7]; exact HBX.out.size)
        have HEM : Hid (X2.ownsRow wd.heap.size 38 2 (.slice (some ⟨wd.heap.size, 0, none⟩) 0 0) 0 []) := Lib.hid (by rw [hX2]; exact own_via HEM.out (alloc_below _ _))
        have HBX : Hid (Below wd.heap.size wd X2) := Lib.hid (by rw [hX2]; exact belowStep HBX.out (alloc_below _ _))
        have HSX : Hid (wd.heap.size ≤ X2.heap.size) := Lib.hid HBX.out.size
        go_simp
        rw [← hX2, ← hb7]
        refine ⟨HBX.out, ?_⟩
        clear hX2 hb7
        refine wpT_oneW 11 rfl (by rfl) (by kernel_rfl) ?_
        have HN := Lib.hid (news_in (w := X2) (g := g) (o := o) (l := l) (fun j hj => (at_cells (HAD.out.via HBX.out)).2.2.2 j hj))
        have HAP := Lib.hid (app_ok (n := 0) (m := l.length) (by omega))
        refine wpIn_append_own _ _ 25 rfl (wd.heap.size) 38 i0 (.agg #[.int .i64 0, .int .i64 0]) 2 16 Tryd.underlying25 HI.out HY0.out HY1.out HY2.out rfl (by decide) _ 0 [] rfl HEM.out ⟨g, o, none⟩ l.length sc (cellsP l) rfl (cellsP_len l) HN.out (cellsP_one _) HAP.out.1 HAP.out.2 HSX.out ?_
        intro v5 w5 hown5 hgrow5
        have HB5 := Lib.hid (below_grown HBX.out hgrow5 (fun k hk => Nat.le_trans HBS.out (own_lt HEM.out k hk).1))
        rw [List.nil_append, Nat.zero_add] at hown5
        have HO5 := Lib.hid hown5
        have HK5 := Lib.hid (fun k hk => Nat.le_trans HBS.out (own_lt hown5 k hk).1)
        refine ⟨fun _ => HB5.out, ?_⟩
        refine wpT_call 14 22 (v := .int .i64 k2) HB5.out rfl rfl (by rfl) (f := 45) (args := #[.int .i64 x2, .int .i64 8]) (hrun := fun w hw => ?_) (hdp := by decide) (hc := fun w hw => (callsIn_wide.2 (HP2.out _)).mono (fun e w' h => ⟨h.1, h.2.symm⟩)) (h := ?_)
        · go_simp
        try simp only [Act.put, List.setIfInBounds_toArray, List.set_cons_zero, List.set_cons_succ]
        have HPT := Lib.hid (owns_at HO5.out (val_ok HV.out))
        obtain ⟨⟨a5, c5, he, _⟩, _⟩ := HPT.out
        subst he
        refine wpT_tk 15 23 (v := ?_) HB5.out rfl rfl (by rfl) (hy := fun w hw => ?_) (h := ?_)
        rotate_left
        · go_simp; with_reducible rfl
        try simp only [Act.put, List.setIfInBounds_toArray, List.set_cons_zero, List.set_cons_succ]
        have HR7 := Lib.hid ((hgrow5.block _ (Array.getElem?_eq_some_iff.1 HRX.out).1 (fun e => own_not_unit HEM.out HRX.out b7 e.symm rfl)).trans HRX.out)
        have HBY := Lib.hid HB5.out
        have HOY := Lib.hid HO5.out
        have HS7 : Hid (wd.heap.size ≤ b7) := Lib.hid HB7.out
        obtain ⟨Y, hY⟩ : ∃ Y, Y = w5 := ⟨_, rfl⟩
        rw [← hY] at HR7 HBY HOY ⊢
        clear hY c0 c1 c2 c3 hgrow5 hown5
        have d0 := cell_heap HR7.out (i := 0) rfl
        have d1 := cell_heap HR7.out (i := 1) rfl
        have d2 := cell_heap HR7.out (i := 2) rfl
        have d3 := cell_heap HR7.out (i := 3) rfl
        have d4 := cell_heap HR7.out (i := 4) rfl
        have d5 := cell_heap HR7.out (i := 5) rfl
        have f0 := frozen_of_row _ _ 0 _ _ HR7.out
        have f1 := frozen_of_row _ _ 1 _ _ HR7.out
        have f2 := frozen_of_row _ _ 2 _ _ HR7.out
        have f3 := frozen_of_row _ _ 3 _ _ HR7.out
        have f4 := frozen_of_row _ _ 4 _ _ HR7.out
        have f5 := frozen_of_row _ _ 5 _ _ HR7.out
        refine wpT_oneW 17 rfl (by rfl) (by kernel_rfl) ?_
        go_simp
        refine wpT_done (by kernel_rfl) ?_ _
        have HNB := Lib.hid (own_not_unit HOY.out HR7.out)
        have HPY := Lib.hid (owns_at HOY.out (val_ok HV.out))
        go_wp2_with fail
        go_meet
        case rel => exact ⟨b7, _, _, _, rfl, by have := HS7.out; have := HSD.out; omega, sets_row HR7.out, pts_sets HPY.out HNB.out, fun k hk => ⟨by have := HK5.out k hk; have := HSD.out; omega, HNB.out k hk⟩, belowStep HWD.out (((((((HBY.out.setCell (p := ⟨b7, 0, none⟩) HS7.out _).setCell (p := ⟨b7, 1, none⟩) HS7.out _).setCell (p := ⟨b7, 2, none⟩) HS7.out _).setCell (p := ⟨b7, 3, none⟩) HS7.out _).setCell (p := ⟨b7, 4, none⟩) HS7.out _).setCell (p := ⟨b7, 5, none⟩) HS7.out _))⟩
    · obtain ⟨X, hX⟩ : ∃ X, X = wd.alloc (.cells #[.int .i64 0, .int .i64 0, .int .i64 0, .slice none 0 0, .int .i64 0, .int .i64 0] 27) := ⟨_, rfl⟩
      obtain ⟨b7, hb7⟩ : ∃ b7, b7 = wd.heap.size := ⟨_, rfl⟩
      have HRX : Hid (X.heap[b7]? = some (.cells #[.int .i64 0, .int .i64 0, .int .i64 0, .slice none 0 0, .int .i64 0, .int .i64 0] 27 (0, 0))) := Lib.hid (by rw [hX, hb7]; exact heap_alloc_new _ _)
      have HB7 : Hid (wd.heap.size ≤ b7) := Lib.hid (by rw [hb7]; exact Nat.le_refl _)
      have HBX : Hid (Below wd.heap.size wd X) := Lib.hid (by rw [hX]; exact alloc_below _ _)
      go_simp
      rw [← hX]
      subst hb7
      refine ⟨HBX.out, ?_⟩
      clear hX
      refine wpT_oneW 9 rfl (by rfl) (by kernel_rfl) ?_
      obtain ⟨X2, hX2⟩ : ∃ X2, X2 = X.alloc (.cells #[] 38) := ⟨_, rfl⟩
      have HEM : Hid (X2.ownsRow X.heap.size 38 2 (.slice (some ⟨X.heap.size, 0, none⟩) 0 0) 0 []) := Lib.hid (by rw [hX2]; exact empty_own X)
      have HBS : Hid (wd.heap.size ≤ X.heap.size) := Lib.hid HBX.out.size
      have HRX : Hid (X2.heap[wd.heap.size]? = some (.cells #[.int .i64 0, .int .i64 0, .int .i64 0, .slice none 0 0, .int .i64 0, .int .i64 0] 27 (0, 0))) := Lib.hid (by rw [hX2]; exact heap_below (alloc_below _ _) HRX.out)
      have HBX : Hid (Below wd.heap.size wd X2) := Lib.hid (by rw [hX2]; exact belowStep HBX.out (alloc_below _ _))
      have HSX : Hid (X.heap.size ≤ X2.heap.size) := Lib.hid (by rw [hX2]; simp)
      go_simp
      rw [← hX2]
      refine ⟨HBX.out, ?_⟩
      clear hX2
      refine wpT_oneW 11 rfl (by rfl) (by kernel_rfl) ?_
      have HN := Lib.hid (news_in (w := X2) (g := g) (o := o) (l := l) (fun j hj => (at_cells (HAD.out.via HBX.out)).2.2.2 j hj))
      have HAP := Lib.hid (app_ok (n := 0) (m := l.length) (by omega))
      refine wpIn_append_own _ _ 25 rfl (X.heap.size) 38 i0 (.agg #[.int .i64 0, .int .i64 0]) 2 16 Tryd.underlying25 HI.out HY0.out HY1.out HY2.out rfl (by decide) _ 0 [] rfl HEM.out ⟨g, o, none⟩ l.length sc (cellsP l) rfl (cellsP_len l) HN.out (cellsP_one _) HAP.out.1 HAP.out.2 HSX.out ?_
      intro v5 w5 hown5 hgrow5
      have HB5 := Lib.hid (below_grown HBX.out hgrow5 (fun k hk => Nat.le_trans HBS.out (own_lt HEM.out k hk).1))
      rw [List.nil_append, Nat.zero_add] at hown5
      have HO5 := Lib.hid hown5
      have HK5 := Lib.hid (fun k hk => Nat.le_trans HBS.out (own_lt hown5 k hk).1)
      refine ⟨fun _ => HB5.out, ?_⟩
      refine wpT_call 14 22 (v := .int .i64 k2) HB5.out rfl rfl (by rfl) (f := 45) (args := #[.int .i64 x2, .int .i64 8]) (hrun := fun w hw => ?_) (hdp := by decide) (hc := fun w hw => (callsIn_wide.2 (HP2.out _)).mono (fun e w' h => ⟨h.1, h.2.symm⟩)) (h := ?_)
      · go_simp
      try simp only [Act.put, List.setIfInBounds_toArray, List.set_cons_zero, List.set_cons_succ]
      have HPT := Lib.hid (owns_at HO5.out (val_ok HV.out))
      obtain ⟨⟨a5, c5, he, _⟩, _⟩ := HPT.out
      subst he
      refine wpT_tk 15 23 (v := ?_) HB5.out rfl rfl (by rfl) (hy := fun w hw => ?_) (h := ?_)
      rotate_left
      · go_simp; with_reducible rfl
      try simp only [Act.put, List.setIfInBounds_toArray, List.set_cons_zero, List.set_cons_succ]
      have HR7 := Lib.hid ((hgrow5.block _ (Array.getElem?_eq_some_iff.1 HRX.out).1 (fun e => own_not_unit HEM.out HRX.out wd.heap.size e.symm rfl)).trans HRX.out)
      have HBY := Lib.hid HB5.out
      have HOY := Lib.hid HO5.out
      have HS7 : Hid (wd.heap.size ≤ wd.heap.size) := Lib.hid HB7.out
      obtain ⟨Y, hY⟩ : ∃ Y, Y = w5 := ⟨_, rfl⟩
      rw [← hY] at HR7 HBY HOY ⊢
      clear hY c0 c1 c2 c3 hgrow5 hown5
      have d0 := cell_heap HR7.out (i := 0) rfl
      have d1 := cell_heap HR7.out (i := 1) rfl
      have d2 := cell_heap HR7.out (i := 2) rfl
      have d3 := cell_heap HR7.out (i := 3) rfl
      have d4 := cell_heap HR7.out (i := 4) rfl
      have d5 := cell_heap HR7.out (i := 5) rfl
      have f0 := frozen_of_row _ _ 0 _ _ HR7.out
      have f1 := frozen_of_row _ _ 1 _ _ HR7.out
      have f2 := frozen_of_row _ _ 2 _ _ HR7.out
      have f3 := frozen_of_row _ _ 3 _ _ HR7.out
      have f4 := frozen_of_row _ _ 4 _ _ HR7.out
      have f5 := frozen_of_row _ _ 5 _ _ HR7.out
      refine wpT_oneW 17 rfl (by rfl) (by kernel_rfl) ?_
      go_simp
      refine wpT_done (by kernel_rfl) ?_ _
      have HNB := Lib.hid (own_not_unit HOY.out HR7.out)
      have HPY := Lib.hid (owns_at HOY.out (val_ok HV.out))
      go_wp2_with fail
      go_meet
      case rel => exact ⟨wd.heap.size, _, _, _, rfl, by have := HS7.out; have := HSD.out; omega, sets_row HR7.out, pts_sets HPY.out HNB.out, fun k hk => ⟨by have := HK5.out k hk; have := HSD.out; omega, HNB.out k hk⟩, belowStep HWD.out (((((((HBY.out.setCell (p := ⟨wd.heap.size, 0, none⟩) HS7.out _).setCell (p := ⟨wd.heap.size, 1, none⟩) HS7.out _).setCell (p := ⟨wd.heap.size, 2, none⟩) HS7.out _).setCell (p := ⟨wd.heap.size, 3, none⟩) HS7.out _).setCell (p := ⟨wd.heap.size, 4, none⟩) HS7.out _).setCell (p := ⟨wd.heap.size, 5, none⟩) HS7.out _))⟩
  case rest =>
    obtain ⟨b7, a, n, c, rfl, hs7, hr7, hat, hown, hb⟩ := hcut
    have HXC := Lib.hid (heap_below hb HX.out)
    have HZC := Lib.hid (heap_below hb HZ.out)
    have HR7 := Lib.hid hr7
    have HAT7 := Lib.hid hat
    have HOW := Lib.hid hown
    have HBC := Lib.hid (belowStep HB.out hb)
    have HS7 := Lib.hid hs7
    clear hs7 hr7 hat hown hb
    go_upto_region 2 with fail
    refine (wpIn_wide (n := 5)).1 ?_
    refine wpIn_region_T (fun w' => Below wc.drew.heap.size wc.drew w') 11 (by kernel_rfl) ?_
    have hd : Below wc.heap.size wc wc.drew := (Below.refl _ _).drew
    have HXD := Lib.hid (heap_below hd HXC.out)
    have HZD := Lib.hid (heap_below hd HZC.out)
    have HRD := Lib.hid (heap_below hd HR7.out)
    have HAD := Lib.hid (HAT7.out.via hd)
    have HBD := Lib.hid (belowStep HBC.out hd)
    clear hd
    generalize wc.drew = wd at *
    have hw1 : IntKind.i64.wrap (k2 + 1) = k2 + 1 := IntWalk.i64_in _ (by omega)
    have hw2 : IntKind.i64.wrap (8 - k2) = 8 - k2 := IntWalk.i64_in _ (by omega)
    have hw3 : IntKind.i64.wrap (k2 + 1 + k3) = k2 + 1 + k3 := IntWalk.i64_in _ (by omega)
    have c3 := cell_heap HXD.out (i := 3) rfl
    have d4 := cell_heap HRD.out (i := 4) rfl
    have d5 := cell_heap HRD.out (i := 5) rfl
    have f5 := frozen_of_row _ _ 5 _ _ HRD.out
    refine wpT_tk 0 24 (v := ?_) (Below.refl _ _) rfl rfl (by rfl) (hy := fun w hw => ?_) (h := ?_)
    rotate_left
    · go_simp; with_reducible rfl
    try simp only [Act.put, List.setIfInBounds_toArray, List.set_cons_zero, List.set_cons_succ]
    refine wpT_tk 1 25 (v := ?_) (Below.refl _ _) rfl rfl (by rfl) (hy := fun w hw => ?_) (h := ?_)
    rotate_left
    · have d4 := keptBelow hw d4; go_simp; with_reducible rfl
    try simp only [Act.put, List.setIfInBounds_toArray, List.set_cons_zero, List.set_cons_succ]
    refine wpT_tk 2 26 (v := ?_) (Below.refl _ _) rfl rfl (by rfl) (hy := fun w hw => ?_) (h := ?_)
    rotate_left
    · go_simp; with_reducible rfl
    try simp only [Act.put, List.setIfInBounds_toArray, List.set_cons_zero, List.set_cons_succ]
    refine wpT_tk 3 27 (v := ?_) (Below.refl _ _) rfl rfl (by rfl) (hy := fun w hw => ?_) (h := ?_)
    rotate_left
    · go_simp; with_reducible rfl
    try simp only [Act.put, List.setIfInBounds_toArray, List.set_cons_zero, List.set_cons_succ]
    refine wpT_tk 4 28 (v := ?_) (Below.refl _ _) rfl rfl (by rfl) (hy := fun w hw => ?_) (h := ?_)
    rotate_left
    · have c3 := keptBelow hw c3; go_simp; with_reducible rfl
    try simp only [Act.put, List.setIfInBounds_toArray, List.set_cons_zero, List.set_cons_succ]
    refine wpT_tk 5 29 (v := ?_) (Below.refl _ _) rfl rfl (by rfl) (hy := fun w hw => ?_) (h := ?_)
    rotate_left
    · go_simp; with_reducible rfl
    try simp only [Act.put, List.setIfInBounds_toArray, List.set_cons_zero, List.set_cons_succ]
    refine wpT_tk 6 30 (v := ?_) (Below.refl _ _) rfl rfl (by rfl) (hy := fun w hw => ?_) (h := ?_)
    rotate_left
    · have d4 := keptBelow hw d4; go_simp; with_reducible rfl
    try simp only [Act.put, List.setIfInBounds_toArray, List.set_cons_zero, List.set_cons_succ]
    refine wpT_tk 7 31 (v := ?_) (Below.refl _ _) rfl rfl (by rfl) (hy := fun w hw => ?_) (h := ?_)
    rotate_left
    · go_simp; with_reducible rfl
    try simp only [Act.put, List.setIfInBounds_toArray, List.set_cons_zero, List.set_cons_succ]
    refine wpT_call 8 32 (v := .int .i64 k3) (Below.refl _ _) rfl rfl (by rfl) (f := 45) (args := #[.int .i64 x3, .int .i64 (8 - k2)]) (hrun := fun w hw => ?_) (hdp := by decide) (hc := fun w hw => (callsIn_wide.2 (HP3.out _)).mono (fun e w' h => ⟨h.1, h.2.symm⟩)) (h := ?_)
    · go_simp
    try simp only [Act.put, List.setIfInBounds_toArray, List.set_cons_zero, List.set_cons_succ]
    refine wpT_tk 9 33 (v := ?_) (Below.refl _ _) rfl rfl (by rfl) (hy := fun w hw => ?_) (h := ?_)
    rotate_left
    · go_simp; with_reducible rfl
    try simp only [Act.put, List.setIfInBounds_toArray, List.set_cons_zero, List.set_cons_succ]
    refine wpT_tk 10 34 (v := ?_) (Below.refl _ _) rfl rfl (by rfl) (hy := fun w hw => ?_) (h := ?_)
    rotate_left
    · go_simp; with_reducible rfl
    try simp only [Act.put, List.setIfInBounds_toArray, List.set_cons_zero, List.set_cons_succ]
    refine wpT_oneW 11 rfl (by rfl) (by kernel_rfl) ?_
    go_simp
    refine wpT_done (by kernel_rfl) ?_ _
    obtain ⟨V, hV⟩ : ∃ V, V = wd.setCell ⟨b7, 5, none⟩ (.int .i64 (k2 + 1 + k3)) := ⟨_, rfl⟩
    have HRV : Hid (V.heap[b7]? = some (.cells #[.int .i64 kid, .int .i64 (1 + k0), .int .i64 k1, .slice a n c, .int .i64 k2, .int .i64 (k2 + 1 + k3)] 27 (0, 0))) := Lib.hid (by rw [hV]; exact (heap_setCell_same wd b7 5 _ _ _ HRD.out).trans rfl)
    have HZV : Hid (V.heap[w.heap.size + 1]? = some (.cells #[.int .i64 0, .int .i64 0, .int .i64 0, .slice none 0 0, .int .i64 0, .int .i64 0] 27 (0, 0))) := Lib.hid (by rw [hV]; exact (one_other (by have := HS7.out; omega)).trans HZD.out)
    have HAV : Hid (PtsAt V (.slice a n c) l) := Lib.hid (by rw [hV]; exact pts_set' HAD.out (fun k hk => (HOW.out k hk).2))
    have HBV : Hid (Below w.heap.size w V) := Lib.hid (by rw [hV]; exact HBD.out.setCell (p := ⟨b7, 5, none⟩) (by have := HS7.out; show w.heap.size ≤ b7; omega) _)
    rw [← hV]
    clear c3 d4 d5 f5 hV
    have d0 := cell_heap HRV.out (i := 0) rfl
    have d1 := cell_heap HRV.out (i := 1) rfl
    have d2 := cell_heap HRV.out (i := 2) rfl
    have d3 := cell_heap HRV.out (i := 3) rfl
    have d4 := cell_heap HRV.out (i := 4) rfl
    have d5 := cell_heap HRV.out (i := 5) rfl
    have z0 := cell_heap HZV.out (i := 0) rfl
    have z1 := cell_heap HZV.out (i := 1) rfl
    have z2 := cell_heap HZV.out (i := 2) rfl
    have z3 := cell_heap HZV.out (i := 3) rfl
    have z4 := cell_heap HZV.out (i := 4) rfl
    have z5 := cell_heap HZV.out (i := 5) rfl
    have f0 := frozen_of_row _ _ 0 _ _ HZV.out
    have f1 := frozen_of_row _ _ 1 _ _ HZV.out
    have f2 := frozen_of_row _ _ 2 _ _ HZV.out
    have f3 := frozen_of_row _ _ 3 _ _ HZV.out
    have f4 := frozen_of_row _ _ 4 _ _ HZV.out
    have f5 := frozen_of_row _ _ 5 _ _ HZV.out
    go_wp2_with fail
    exact of_end (sets_row HZV.out) ⟨_, by rw [HE.out]; rfl, pts_sets HAV.out (fun k hk => by have := (HOW.out k hk).1; omega), fun k hk => by have := (HOW.out k hk).1; omega, ((((((HBV.out.setCell (p := ⟨w.heap.size + 1, 0, none⟩) (by simp) _).setCell (p := ⟨w.heap.size + 1, 1, none⟩) (by simp) _).setCell (p := ⟨w.heap.size + 1, 2, none⟩) (by simp) _).setCell (p := ⟨w.heap.size + 1, 3, none⟩) (by simp) _).setCell (p := ⟨w.heap.size + 1, 4, none⟩) (by simp) _).setCell (p := ⟨w.heap.size + 1, 5, none⟩) (by simp) _)⟩
end Go.Proofs.YtcamncipkofgkaaDoor
/- UntPair: The contract of the reference's Pair. -/
namespace Go.Proofs.YtcamncipkofgkaaDoor
open Go.RowKit Go.Shelf Pln Unt
def PairU (w : World) (e : Ending) (w' : World) : Prop := ∃ u t r s, e = .returned (.tuple #[uv u r, uv t s]) ∧ ValU u ∧ ValU t ∧ UAt w' r u ∧ UAt w' s t ∧ Below w.heap.size w w'
theorem pair8_end {W : World} {b c : Nat} {x0 x1 x2 x3 x4 x5 y0 y1 y2 y3 y4 y5 : Value} {tm : Array Value} {Q : Ending → World → Prop} (hz : W.heap[b]? = some (.cells #[x0, x1, x2, x3, x4, x5] 27 (0, 0))) (hy : W.heap[c]? = some (.cells #[y0, y1, y2, y3, y4, y5] 27 (0, 0)))
    (hQ : Q (.returned (.tuple #[.agg #[x0, x1, x2, x3, x4, x5], .agg #[y0, y1, y2, y3, y4, y5]])) W)
    (h4 : tm[10]?.getD undef = .pointer (some ⟨b, 0, none⟩) := by rfl) (h5 : tm[11]?.getD undef = .pointer (some ⟨c, 0, none⟩) := by rfl) :
    bodyPost Tryd.prog Tryd.f11 Q Exit.ret { tmps := tm, defers := [] } W := by
  have z0 := cell_heap hz (i := 0) rfl
  have z1 := cell_heap hz (i := 1) rfl
  have z2 := cell_heap hz (i := 2) rfl
  have z3 := cell_heap hz (i := 3) rfl
  have z4 := cell_heap hz (i := 4) rfl
  have z5 := cell_heap hz (i := 5) rfl
  have q0 := cell_heap hy (i := 0) rfl
  have q1 := cell_heap hy (i := 1) rfl
  have q2 := cell_heap hy (i := 2) rfl
  have q3 := cell_heap hy (i := 3) rfl
  have q4 := cell_heap hy (i := 4) rfl
  have q5 := cell_heap hy (i := 5) rfl
  exact bodyPost_ret (v := .tuple #[.agg #[x0, x1, x2, x3, x4, x5], .agg #[y0, y1, y2, y3, y4, y5]]) (by simp [results, Tryd.results11, go_sem, h4, h5, z0, z1, z2, z3, z4, z5, q0, q1, q2, q3, q4, q5]) rfl hQ
theorem below_six' {w w1 : World} {b : Nat} {y0 y1 y2 y3 y4 y5 : Value} (hB : Below w.heap.size w w1) (hb : w.heap.size ≤ b) : Below w.heap.size w ((((((w1.setCell ⟨b, 0, none⟩ y0).setCell ⟨b, 1, none⟩ y1).setCell ⟨b, 2, none⟩ y2).setCell ⟨b, 3, none⟩ y3).setCell ⟨b, 4, none⟩ y4).setCell ⟨b, 5, none⟩ y5) :=
  (((((hB.setCell (p := ⟨b, 0, none⟩) hb _).setCell (p := ⟨b, 1, none⟩) hb _).setCell (p := ⟨b, 2, none⟩) hb _).setCell (p := ⟨b, 3, none⟩) hb _).setCell (p := ⟨b, 4, none⟩) hb _).setCell (p := ⟨b, 5, none⟩) hb _
set_option maxRecDepth 100000 in
set_option maxHeartbeats 2000000 in
theorem pair8_w (x y : List Pt) (hx : (x.length : Int) ≤ 9223372036854775807) (hy : (y.length : Int) ≤ 9223372036854775807) (how : Int) (hh : I64 how) (a0 a1 a2 a3 b0 b1 b2 b3 : Int)
    (ha : I64 a0 ∧ I64 a1 ∧ I64 a2 ∧ I64 a3) (hb : I64 b0 ∧ I64 b1 ∧ I64 b2 ∧ I64 b3) (v1 v2 : Value) (w : World) (h1 : PtsAt w v1 x) (h2 : PtsAt w v2 y) :
    Calls Tryd.prog 11 #[v1, v2, .int .i64 how, .agg #[.int .i64 a0, .int .i64 a1, .int .i64 a2, .int .i64 a3], .agg #[.int .i64 b0, .int .i64 b1, .int .i64 b2, .int .i64 b3]] w (PairU w) := by
  obtain ⟨W1, hW1⟩ : ∃ W1, W1 = w.alloc (.cells #[.int .i64 a0, .int .i64 a1, .int .i64 a2, .int .i64 a3] 23) := ⟨_, rfl⟩
  obtain ⟨W2, hW2⟩ : ∃ W2, W2 = W1.alloc (.cells #[.int .i64 b0, .int .i64 b1, .int .i64 b2, .int .i64 b3] 23) := ⟨_, rfl⟩
  obtain ⟨W3, hW3⟩ : ∃ W3, W3 = W2.alloc (.cells #[.int .i64 0, .int .i64 0, .int .i64 0, .slice none 0 0, .int .i64 0, .int .i64 0] 27) := ⟨_, rfl⟩
  obtain ⟨W, hW⟩ : ∃ W, W = W3.alloc (.cells #[.int .i64 0, .int .i64 0, .int .i64 0, .slice none 0 0, .int .i64 0, .int .i64 0] 27) := ⟨_, rfl⟩
  have hA1 : Below w.heap.size w W1 := by rw [hW1]; exact alloc_below _ _
  have hA2 : Below W1.heap.size W1 W2 := by rw [hW2]; exact alloc_below _ _
  have hA3 : Below W2.heap.size W2 W3 := by rw [hW3]; exact alloc_below _ _
  have hA4 : Below W3.heap.size W3 W := by rw [hW]; exact alloc_below _ _
  have hs1 : W1.heap.size = w.heap.size + 1 := by rw [hW1]; simp
  have hs2 : W2.heap.size = w.heap.size + 2 := by rw [hW2]; simp [hs1]
  have hs3 : W3.heap.size = w.heap.size + 3 := by rw [hW3]; simp [hs2]
  have hs4 : W.heap.size = w.heap.size + 4 := by rw [hW]; simp [hs3]
  have r1 : W.heap[w.heap.size]? = some (.cells #[.int .i64 a0, .int .i64 a1, .int .i64 a2, .int .i64 a3] 23 (0, 0)) := heap_below hA4 (heap_below hA3 (heap_below hA2 (by rw [hW1]; exact heap_alloc_new _ _)))
  have r2 : W.heap[w.heap.size + 1]? = some (.cells #[.int .i64 b0, .int .i64 b1, .int .i64 b2, .int .i64 b3] 23 (0, 0)) := heap_below hA4 (heap_below hA3 (by rw [← hs1, hW2]; exact heap_alloc_new _ _))
  have r3 : W.heap[w.heap.size + 2]? = some (.cells #[.int .i64 0, .int .i64 0, .int .i64 0, .slice none 0 0, .int .i64 0, .int .i64 0] 27 (0, 0)) := heap_below hA4 (by rw [← hs2, hW3]; exact heap_alloc_new _ _)
  have r4 : W.heap[w.heap.size + 3]? = some (.cells #[.int .i64 0, .int .i64 0, .int .i64 0, .slice none 0 0, .int .i64 0, .int .i64 0] 27 (0, 0)) := by rw [← hs3, hW]; exact heap_alloc_new _ _
  have hB := belowStep hA1 (belowStep hA2 (belowStep hA3 hA4))
  have HP := Lib.hid (pair_w x y hx hy how hh v1 v2 W (h1.via hB) (h2.via hB))
  have R1 := Lib.hid r1
  have R2 := Lib.hid r2
  have R3 := Lib.hid r3
  have R4 := Lib.hid r4
  have HB := Lib.hid hB
  have HS := Lib.hid hs4
  have HIA := Lib.hid ha
  have HIB := Lib.hid hb
  have hqa : IntKind.i64.wrap (a0.tdiv 8) = a0.tdiv 8 := IntWalk.i64_in _ (by obtain ⟨h1, h2⟩ := tdiv_i64 ha.1 (show (0 : Int) < 8 by omega); omega)
  have hqb : IntKind.i64.wrap (b0.tdiv 8) = b0.tdiv 8 := IntWalk.i64_in _ (by obtain ⟨h1, h2⟩ := tdiv_i64 hb.1 (show (0 : Int) < 8 by omega); omega)
  have HQA : Hid (I64 (a0.tdiv 8)) := Lib.hid (tdiv_i64 ha.1 (by omega))
  have HQB : Hid (I64 (b0.tdiv 8)) := Lib.hid (tdiv_i64 hb.1 (by omega))
  obtain ⟨qa, hqae⟩ : ∃ qa, qa = a0.tdiv 8 := ⟨_, rfl⟩
  obtain ⟨qb, hqbe⟩ : ∃ qb, qb = b0.tdiv 8 := ⟨_, rfl⟩
  rw [← hqae] at hqa HQA
  rw [← hqbe] at hqb HQB
  have HQE := Lib.hid hqae
  have HQF := Lib.hid hqbe
  clear hqae hqbe
  rw [hW1] at hW2
  rw [hW2] at hW3
  rw [hW3] at hW
  clear hA1 hA2 hA3 hA4 hs1 hs2 hs3 hs4 r1 r2 r3 r4 hB hW1 hW2 hW3 hx hy hh ha hb h1 h2
  go_enter Tryd.func11, Tryd.ntmps11
  go_wp2_with fail
  rw [← hW]
  clear hW
  refine HP.out.mono ?_
  rintro e w1 ⟨l, m, va, vb, rfl, vl, vm, hva, hvb, hb1⟩
  have R1 := Lib.hid (heap_below hb1 R1.out)
  have R2 := Lib.hid (heap_below hb1 R2.out)
  have R3 := Lib.hid (heap_below hb1 R3.out)
  have R4 := Lib.hid (heap_below hb1 R4.out)
  have HB1 := Lib.hid (belowStep HB.out hb1)
  have HS1 : Hid (w.heap.size + 4 ≤ w1.heap.size) := Lib.hid (by have := hb1.size; have := HS.out; omega)
  have HVA := Lib.hid hva
  have HVB := Lib.hid hvb
  have HVL := Lib.hid vl
  have HVM := Lib.hid vm
  clear hb1 hva hvb vl vm
  go_upto_region 2 with fail
  refine (wpIn_wide (n := 5)).1 ?_
  refine wpIn_region_T (fun w' => Below w1.drew.heap.size w1.drew w') 12 (by kernel_rfl) ?_
  have hd : Below w1.heap.size w1 w1.drew := (Below.refl _ _).drew
  have R1 := Lib.hid (heap_below hd R1.out)
  have R2 := Lib.hid (heap_below hd R2.out)
  have R3 := Lib.hid (heap_below hd R3.out)
  have R4 := Lib.hid (heap_below hd R4.out)
  have HBD := Lib.hid (belowStep HB1.out hd)
  have HSD : Hid (w.heap.size + 4 ≤ w1.drew.heap.size) := Lib.hid (by have := hd.size; have := HS1.out; omega)
  have HVA := Lib.hid (HVA.out.via hd)
  have HVB := Lib.hid (HVB.out.via hd)
  clear hd
  generalize w1.drew = wd at *
  have c0 := cell_heap R1.out (i := 0) rfl
  have c1 := cell_heap R1.out (i := 1) rfl
  have c2 := cell_heap R1.out (i := 2) rfl
  have c3 := cell_heap R1.out (i := 3) rfl
  have d0 := cell_heap R2.out (i := 0) rfl
  have d1 := cell_heap R2.out (i := 1) rfl
  have d2 := cell_heap R2.out (i := 2) rfl
  have d3 := cell_heap R2.out (i := 3) rfl
  refine wpT_tk 0 21 (v := ?_) (Below.refl _ _) rfl rfl (by rfl) (hy := fun w hw => ?_) (h := ?_)
  rotate_left
  · go_simp; with_reducible rfl
  try simp only [Act.put, List.setIfInBounds_toArray, List.set_cons_zero, List.set_cons_succ]
  refine wpT_tk 1 22 (v := ?_) (Below.refl _ _) rfl rfl (by rfl) (hy := fun w hw => ?_) (h := ?_)
  rotate_left
  · have c0 := keptBelow hw c0; have d0 := keptBelow hw d0; have c1 := keptBelow hw c1; have d1 := keptBelow hw d1; have c2 := keptBelow hw c2; have d2 := keptBelow hw d2; have c3 := keptBelow hw c3; have d3 := keptBelow hw d3; go_simp; with_reducible rfl
  try simp only [Act.put, List.setIfInBounds_toArray, List.set_cons_zero, List.set_cons_succ]
  refine wpT_tk 2 23 (v := .int .i64 qa) (Below.refl _ _) rfl rfl (by rfl) (hy := fun w hw => ?_) (h := ?_)
  · have e := HQE.out; rw [e] at hqa ⊢; clear e; go_simp
  try simp only [Act.put, List.setIfInBounds_toArray, List.set_cons_zero, List.set_cons_succ]
  refine wpT_tk 3 24 (v := ?_) (Below.refl _ _) rfl rfl (by rfl) (hy := fun w hw => ?_) (h := ?_)
  rotate_left
  · go_simp; with_reducible rfl
  try simp only [Act.put, List.setIfInBounds_toArray, List.set_cons_zero, List.set_cons_succ]
  refine wpT_tk 4 25 (v := ?_) (Below.refl _ _) rfl rfl (by rfl) (hy := fun w hw => ?_) (h := ?_)
  rotate_left
  · have c0 := keptBelow hw c0; have d0 := keptBelow hw d0; have c1 := keptBelow hw c1; have d1 := keptBelow hw d1; have c2 := keptBelow hw c2; have d2 := keptBelow hw d2; have c3 := keptBelow hw c3; have d3 := keptBelow hw d3; go_simp; with_reducible rfl
  try simp only [Act.put, List.setIfInBounds_toArray, List.set_cons_zero, List.set_cons_succ]
  refine wpT_tk 6 27 (v := ?_) (Below.refl _ _) rfl rfl (by rfl) (hy := fun w hw => ?_) (h := ?_)
  rotate_left
  · go_simp; with_reducible rfl
  try simp only [Act.put, List.setIfInBounds_toArray, List.set_cons_zero, List.set_cons_succ]
  refine wpT_tk 7 28 (v := ?_) (Below.refl _ _) rfl rfl (by rfl) (hy := fun w hw => ?_) (h := ?_)
  rotate_left
  · have c0 := keptBelow hw c0; have d0 := keptBelow hw d0; have c1 := keptBelow hw c1; have d1 := keptBelow hw d1; have c2 := keptBelow hw c2; have d2 := keptBelow hw d2; have c3 := keptBelow hw c3; have d3 := keptBelow hw d3; go_simp; with_reducible rfl
  try simp only [Act.put, List.setIfInBounds_toArray, List.set_cons_zero, List.set_cons_succ]
  refine wpT_tk 8 29 (v := .int .i64 qb) (Below.refl _ _) rfl rfl (by rfl) (hy := fun w hw => ?_) (h := ?_)
  · have e := HQF.out; rw [e] at hqb ⊢; clear e; go_simp
  try simp only [Act.put, List.setIfInBounds_toArray, List.set_cons_zero, List.set_cons_succ]
  refine wpT_tk 9 30 (v := ?_) (Below.refl _ _) rfl rfl (by rfl) (hy := fun w hw => ?_) (h := ?_)
  rotate_left
  · go_simp; with_reducible rfl
  try simp only [Act.put, List.setIfInBounds_toArray, List.set_cons_zero, List.set_cons_succ]
  refine wpT_tk 10 31 (v := ?_) (Below.refl _ _) rfl rfl (by rfl) (hy := fun w hw => ?_) (h := ?_)
  rotate_left
  · have c0 := keptBelow hw c0; have d0 := keptBelow hw d0; have c1 := keptBelow hw c1; have d1 := keptBelow hw d1; have c2 := keptBelow hw c2; have d2 := keptBelow hw d2; have c3 := keptBelow hw c3; have d3 := keptBelow hw d3; go_simp; with_reducible rfl
  try simp only [Act.put, List.setIfInBounds_toArray, List.set_cons_zero, List.set_cons_succ]
  clear c0 c1 c2 c3 d0 d1 d2 d3
  refine wpT_oneW 5 rfl (by rfl) (by kernel_rfl) ?_
  go_simp
  refine ⟨trivial, ?_⟩
  refine (callsIn_wide.2 (of_w qa l a0 a1 a2 a3 HQA.out HIA.out.1 HIA.out.2.1 HIA.out.2.2.1 HIA.out.2.2.2 HVL.out va wd HVA.out)).mono ?_
  rintro e w5 ⟨r, rfl, hr, hro, hb5⟩
  refine ⟨hb5, ?_⟩
  have HR := Lib.hid hr
  have HRO := Lib.hid hro
  have HB5 := Lib.hid hb5
  clear hr hro hb5
  refine wpT_oneW 11 rfl (by rfl) (by kernel_rfl) ?_
  go_simp
  refine ⟨trivial, ?_⟩
  refine (callsIn_wide.2 (of_w qb m b0 b1 b2 b3 HQB.out HIB.out.1 HIB.out.2.1 HIB.out.2.2.1 HIB.out.2.2.2 HVM.out vb w5 (HVB.out.via HB5.out))).mono ?_
  rintro e w6 ⟨s, rfl, hs, hso, hb6⟩
  have HB6 := Lib.hid (belowStep HB5.out hb6)
  refine ⟨HB6.out, ?_⟩
  have HR := Lib.hid (HR.out.via hb6)
  have HSS := Lib.hid hs
  have HSO : Hid (∀ k, s.ownBlock = some k → wd.heap.size ≤ k) := Lib.hid (fun k hk => Nat.le_trans HB5.out.size (hso k hk))
  clear hs hso hb6
  have R3 := Lib.hid (heap_below HB6.out R3.out)
  have R4 := Lib.hid (heap_below HB6.out R4.out)
  have HBE := Lib.hid (belowStep HBD.out HB6.out)
  have HU := Lib.hid (ofU_val qa HVL.out a0 a1 a2 a3)
  have HT := Lib.hid (ofU_val qb HVM.out b0 b1 b2 b3)
  have HUS : Hid ((ofU qa l a0 a1 a2 a3).shape = l) := Lib.hid rfl
  have HTS : Hid ((ofU qb m b0 b1 b2 b3).shape = m) := Lib.hid rfl
  generalize ofU qa l a0 a1 a2 a3 = u at *
  generalize ofU qb m b0 b1 b2 b3 = t at *
  obtain ⟨i, k, mt, sh, bk, fr⟩ := u
  obtain ⟨i', k', mt', sh', bk', fr'⟩ := t
  have hus : sh = l := HUS.out
  have hts : sh' = m := HTS.out
  subst hus
  subst hts
  unfold uv
  dsimp only
  obtain ⟨⟨ar, cr, he, _⟩, _⟩ := HR.out
  subst he
  obtain ⟨⟨ax, cs, he, _⟩, _⟩ := HSS.out
  subst he
  have c0 := cell_heap R3.out (i := 0) rfl
  have c1 := cell_heap R3.out (i := 1) rfl
  have c2 := cell_heap R3.out (i := 2) rfl
  have c3 := cell_heap R3.out (i := 3) rfl
  have c4 := cell_heap R3.out (i := 4) rfl
  have c5 := cell_heap R3.out (i := 5) rfl
  have f0 := frozen_of_row _ _ 0 _ _ R3.out
  have f1 := frozen_of_row _ _ 1 _ _ R3.out
  have f2 := frozen_of_row _ _ 2 _ _ R3.out
  have f3 := frozen_of_row _ _ 3 _ _ R3.out
  have f4 := frozen_of_row _ _ 4 _ _ R3.out
  have f5 := frozen_of_row _ _ 5 _ _ R3.out
  have d0 := cell_heap R4.out (i := 0) rfl
  have d1 := cell_heap R4.out (i := 1) rfl
  have d2 := cell_heap R4.out (i := 2) rfl
  have d3 := cell_heap R4.out (i := 3) rfl
  have d4 := cell_heap R4.out (i := 4) rfl
  have d5 := cell_heap R4.out (i := 5) rfl
  have g0 := frozen_of_row _ _ 0 _ _ R4.out
  have g1 := frozen_of_row _ _ 1 _ _ R4.out
  have g2 := frozen_of_row _ _ 2 _ _ R4.out
  have g3 := frozen_of_row _ _ 3 _ _ R4.out
  have g4 := frozen_of_row _ _ 4 _ _ R4.out
  have g5 := frozen_of_row _ _ 5 _ _ R4.out
  refine wpT_oneW 12 rfl (by rfl) (by kernel_rfl) ?_
  go_simp
  refine wpT_oneW 13 rfl (by rfl) (by kernel_rfl) ?_
  go_simp
  refine wpT_done (by kernel_rfl) ?_ _
  go_wp2_with fail
  exact pair8_end ((sets_other (by omega)).trans (sets_row R3.out)) (sets_row ((sets_other (by omega)).trans R4.out)) ⟨_, _, _, _, rfl, HU.out, HT.out, ⟨valU_ok HU.out, pts_sets (pts_sets HR.out (fun k hk => by have := HRO.out k hk; have := HSD.out; omega)) (fun k hk => by have := HRO.out k hk; have := HSD.out; omega)⟩, ⟨valU_ok HT.out, pts_sets (pts_sets HSS.out (fun k hk => by have := HSO.out k hk; have := HSD.out; omega)) (fun k hk => by have := HSO.out k hk; have := HSD.out; omega)⟩, below_six' (below_six' HBE.out (by omega)) (by omega)⟩
end Go.Proofs.YtcamncipkofgkaaDoor
/- UntExm: The units of the chapter's examples. -/
namespace Unt
open Pln
def exS8 : U := ⟨3, 2, 0, [(0, 0), (4, 0), (4, 4), (0, 4)], 0, 2⟩
def exT8 : U := ⟨5, 3, 3, [(4, 2), (8, 2), (8, 6), (4, 6)], 1, 4⟩
end Unt
namespace Go.Proofs.YtcamncipkofgkaaDoor
open Go.RowKit Go.Shelf Pln Unt
theorem built4u (w : World) {a b c d e f g h : Int} (hh : PtsOk [(a, b), (c, d), (e, f), (g, h)]) : PtsAt (w.alloc (.cells #[.int .i64 a, .int .i64 b, .int .i64 c, .int .i64 d, .int .i64 e, .int .i64 f, .int .i64 g, .int .i64 h] 38)) (.slice (some ⟨w.heap.size, 0, none⟩) 4 4) [(a, b), (c, d), (e, f), (g, h)] := by
  refine ⟨⟨_, 4, rfl, Nat.le_refl _, by omega, .inr ⟨w.heap.size, 0, rfl, fun j hj => ?_⟩⟩, hh⟩
  have hj' : j = 0 ∨ j = 1 ∨ j = 2 ∨ j = 3 := by simp at hj; omega
  rcases hj' with rfl | rfl | rfl | rfl
  · exact ⟨cell_rowN w _ _ 0 rfl, cell_rowN w _ _ 1 rfl⟩
  · exact ⟨cell_rowN w _ _ 2 rfl, cell_rowN w _ _ 3 rfl⟩
  · exact ⟨cell_rowN w _ _ 4 rfl, cell_rowN w _ _ 5 rfl⟩
  · exact ⟨cell_rowN w _ _ 6 rfl, cell_rowN w _ _ 7 rfl⟩
def okPu (p : Pt) : Bool := decide (-100 ≤ p.1) && decide (p.1 ≤ 100) && decide (-100 ≤ p.2) && decide (p.2 ≤ 100)
theorem ok_ofu {l : List Pt} (h : l.all okPu = true) : PtsOk l := fun r hr => by
  have := List.all_eq_true.1 h r hr
  unfold okPu at this
  simp only [Bool.and_eq_true, decide_eq_true_eq] at this
  obtain ⟨⟨⟨a, b⟩, c⟩, d⟩ := this
  exact ⟨⟨by omega, by omega⟩, by omega, by omega⟩
theorem exm_end {W : World} {b c : Nat} {x0 x1 x2 x3 x4 x5 y0 y1 y2 y3 y4 y5 : Value} {tm : Array Value} {Q : Ending → World → Prop} (hz : W.heap[b]? = some (.cells #[x0, x1, x2, x3, x4, x5] 27 (0, 0))) (hy : W.heap[c]? = some (.cells #[y0, y1, y2, y3, y4, y5] 27 (0, 0)))
    (hQ : Q (.returned (.tuple #[.agg #[x0, x1, x2, x3, x4, x5], .agg #[y0, y1, y2, y3, y4, y5]])) W)
    (h4 : tm[0]?.getD undef = .pointer (some ⟨b, 0, none⟩) := by rfl) (h5 : tm[1]?.getD undef = .pointer (some ⟨c, 0, none⟩) := by rfl) :
    bodyPost Tryd.prog Tryd.f42 Q Exit.ret { tmps := tm, defers := [] } W := by
  have z0 := cell_heap hz (i := 0) rfl
  have z1 := cell_heap hz (i := 1) rfl
  have z2 := cell_heap hz (i := 2) rfl
  have z3 := cell_heap hz (i := 3) rfl
  have z4 := cell_heap hz (i := 4) rfl
  have z5 := cell_heap hz (i := 5) rfl
  have q0 := cell_heap hy (i := 0) rfl
  have q1 := cell_heap hy (i := 1) rfl
  have q2 := cell_heap hy (i := 2) rfl
  have q3 := cell_heap hy (i := 3) rfl
  have q4 := cell_heap hy (i := 4) rfl
  have q5 := cell_heap hy (i := 5) rfl
  exact bodyPost_ret (v := .tuple #[.agg #[x0, x1, x2, x3, x4, x5], .agg #[y0, y1, y2, y3, y4, y5]]) (by simp [results, Tryd.results42, go_sem, h4, h5, z0, z1, z2, z3, z4, z5, q0, q1, q2, q3, q4, q5]) rfl hQ
set_option maxRecDepth 100000 in
set_option maxHeartbeats 2000000 in
theorem examples_w (w : World) : Calls Tryd.prog 42 #[] w fun e w' => ∃ r s, e = .returned (.tuple #[uv exS8 r, uv exT8 s]) ∧ UAt w' r exS8 ∧ UAt w' s exT8 ∧ Below w.heap.size w w' := by
  obtain ⟨V1, h1⟩ : ∃ V, V = w.alloc (.cells #[.int .i64 0, .int .i64 0, .int .i64 0, .slice none 0 0, .int .i64 0, .int .i64 0] 27) := ⟨_, rfl⟩
  have B1 : Below w.heap.size w V1 := by rw [h1]; exact alloc_below _ _
  have s1 : V1.heap.size = w.heap.size + 1 := by rw [h1]; simp
  obtain ⟨V2, h2⟩ : ∃ V, V = V1.alloc (.cells #[.int .i64 0, .int .i64 0, .int .i64 0, .slice none 0 0, .int .i64 0, .int .i64 0] 27) := ⟨_, rfl⟩
  have B2 : Below V1.heap.size V1 V2 := by rw [h2]; exact alloc_below _ _
  have s2 : V2.heap.size = w.heap.size + 1 + 1 := by rw [h2]; simp [s1]
  obtain ⟨V3, h3⟩ : ∃ V, V = V2.alloc (.cells #[.int .i64 0, .int .i64 0, .int .i64 4, .int .i64 0, .int .i64 4, .int .i64 4, .int .i64 0, .int .i64 4] 38) := ⟨_, rfl⟩
  have B3 : Below V2.heap.size V2 V3 := by rw [h3]; exact alloc_below _ _
  have s3 : V3.heap.size = w.heap.size + 1 + 1 + 1 := by rw [h3]; simp [s2]
  obtain ⟨V4, h4⟩ : ∃ V, V = V3.alloc (.cells #[.int .i64 3, .int .i64 2, .int .i64 0, .slice (some ⟨w.heap.size + 1 + 1, 0, none⟩) 4 4, .int .i64 0, .int .i64 2] 27) := ⟨_, rfl⟩
  have B4 : Below V3.heap.size V3 V4 := by rw [h4]; exact alloc_below _ _
  have s4 : V4.heap.size = w.heap.size + 1 + 1 + 1 + 1 := by rw [h4]; simp [s3]
  obtain ⟨V5, h5⟩ : ∃ V, V = V4.alloc (.cells #[.int .i64 4, .int .i64 2, .int .i64 8, .int .i64 2, .int .i64 8, .int .i64 6, .int .i64 4, .int .i64 6] 38) := ⟨_, rfl⟩
  have B5 : Below V4.heap.size V4 V5 := by rw [h5]; exact alloc_below _ _
  have s5 : V5.heap.size = w.heap.size + 1 + 1 + 1 + 1 + 1 := by rw [h5]; simp [s4]
  obtain ⟨V6, h6⟩ : ∃ V, V = V5.alloc (.cells #[.int .i64 5, .int .i64 3, .int .i64 3, .slice (some ⟨w.heap.size + 1 + 1 + 1 + 1, 0, none⟩) 4 4, .int .i64 1, .int .i64 4] 27) := ⟨_, rfl⟩
  have B6 : Below V5.heap.size V5 V6 := by rw [h6]; exact alloc_below _ _
  have s6 : V6.heap.size = w.heap.size + 1 + 1 + 1 + 1 + 1 + 1 := by rw [h6]; simp [s5]
  have R0 : V6.heap[w.heap.size]? = some (.cells #[.int .i64 0, .int .i64 0, .int .i64 0, .slice none 0 0, .int .i64 0, .int .i64 0] 27 (0, 0)) := heap_below B6 (heap_below B5 (heap_below B4 (heap_below B3 (heap_below B2 (by rw [h1]; exact heap_alloc_new _ _)))))
  have R1 : V6.heap[w.heap.size + 1]? = some (.cells #[.int .i64 0, .int .i64 0, .int .i64 0, .slice none 0 0, .int .i64 0, .int .i64 0] 27 (0, 0)) := heap_below B6 (heap_below B5 (heap_below B4 (heap_below B3 (by rw [← s1, h2]; exact heap_alloc_new _ _))))
  have R3 : V6.heap[w.heap.size + 1 + 1 + 1]? = some (.cells #[.int .i64 3, .int .i64 2, .int .i64 0, .slice (some ⟨w.heap.size + 1 + 1, 0, none⟩) 4 4, .int .i64 0, .int .i64 2] 27 (0, 0)) := heap_below B6 (heap_below B5 (by rw [← s3, h4]; exact heap_alloc_new _ _))
  have R5 : V6.heap[w.heap.size + 1 + 1 + 1 + 1 + 1]? = some (.cells #[.int .i64 5, .int .i64 3, .int .i64 3, .slice (some ⟨w.heap.size + 1 + 1 + 1 + 1, 0, none⟩) 4 4, .int .i64 1, .int .i64 4] 27 (0, 0)) := by rw [← s5, h6]; exact heap_alloc_new _ _
  have hB := belowStep B1 (belowStep B2 (belowStep B3 (belowStep B4 (belowStep B5 B6))))
  have A2 : PtsAt V3 (.slice (some ⟨w.heap.size + 1 + 1, 0, none⟩) 4 4) exS8.shape := by rw [← s2, h3]; exact built4u V2 (ok_ofu (by decide))
  have A4 : PtsAt V5 (.slice (some ⟨w.heap.size + 1 + 1 + 1 + 1, 0, none⟩) 4 4) exT8.shape := by rw [← s4, h5]; exact built4u V4 (ok_ofu (by decide))
  have A2 := Lib.hid (((A2.via B4).via B5).via B6)
  have A4 := Lib.hid (A4.via B6)
  have R0 := Lib.hid R0
  have R1 := Lib.hid R1
  have R3 := Lib.hid R3
  have R5 := Lib.hid R5
  have HB := Lib.hid hB
  rw [h1] at h2
  rw [h2] at h3
  rw [h3] at h4
  rw [h4] at h5
  rw [h5] at h6
  clear h1 h2 h3 h4 h5 B1 B2 B3 B4 B5 B6 s1 s2 s3 s4 s5 s6 hB
  go_enter Tryd.func42, Tryd.ntmps42
  go_upto_region 3 with fail
  rw [← h6]
  clear h6
  refine (wpIn_wide (n := 5)).1 ?_
  refine wpIn_region_T (fun w' => w'.heap[w.heap.size + 1 + 1 + 1]? = some (.cells #[.int .i64 3, .int .i64 2, .int .i64 0, .slice (some ⟨w.heap.size + 1 + 1, 0, none⟩) 4 4, .int .i64 0, .int .i64 2] 27 (0, 0)) ∧ w'.heap[w.heap.size + 1 + 1 + 1 + 1 + 1]? = some (.cells #[.int .i64 5, .int .i64 3, .int .i64 3, .slice (some ⟨w.heap.size + 1 + 1 + 1 + 1, 0, none⟩) 4 4, .int .i64 1, .int .i64 4] 27 (0, 0))) 3 (by kernel_rfl) ?_
  have hd : Below V6.heap.size V6 V6.drew := (Below.refl _ _).drew
  have R0 := Lib.hid (heap_below hd R0.out)
  have R1 := Lib.hid (heap_below hd R1.out)
  have R3 := Lib.hid (heap_below hd R3.out)
  have R5 := Lib.hid (heap_below hd R5.out)
  have A2 := Lib.hid (A2.out.via hd)
  have A4 := Lib.hid (A4.out.via hd)
  have HB := Lib.hid (belowStep HB.out hd)
  clear hd
  generalize V6.drew = wd at *
  refine wpT_tk 0 16 (v := ?_) ⟨R3.out, R5.out⟩ rfl rfl (by rfl) (hy := fun w hw => ?_) (h := ?_)
  rotate_left
  · have m0 := cell_heap hw.1 (i := 0) rfl; have m1 := cell_heap hw.1 (i := 1) rfl; have m2 := cell_heap hw.1 (i := 2) rfl; have m3 := cell_heap hw.1 (i := 3) rfl; have m4 := cell_heap hw.1 (i := 4) rfl; have m5 := cell_heap hw.1 (i := 5) rfl; clear hw; go_simp; with_reducible rfl
  try simp only [Act.put, List.setIfInBounds_toArray, List.set_cons_zero, List.set_cons_succ]
  refine wpT_tk 1 17 (v := ?_) ⟨R3.out, R5.out⟩ rfl rfl (by rfl) (hy := fun w hw => ?_) (h := ?_)
  rotate_left
  · have m0 := cell_heap hw.2 (i := 0) rfl; have m1 := cell_heap hw.2 (i := 1) rfl; have m2 := cell_heap hw.2 (i := 2) rfl; have m3 := cell_heap hw.2 (i := 3) rfl; have m4 := cell_heap hw.2 (i := 4) rfl; have m5 := cell_heap hw.2 (i := 5) rfl; clear hw; go_simp; with_reducible rfl
  try simp only [Act.put, List.setIfInBounds_toArray, List.set_cons_zero, List.set_cons_succ]
  have c0 := cell_heap R0.out (i := 0) rfl
  have c1 := cell_heap R0.out (i := 1) rfl
  have c2 := cell_heap R0.out (i := 2) rfl
  have c3 := cell_heap R0.out (i := 3) rfl
  have c4 := cell_heap R0.out (i := 4) rfl
  have c5 := cell_heap R0.out (i := 5) rfl
  have f0 := frozen_of_row _ _ 0 _ _ R0.out
  have f1 := frozen_of_row _ _ 1 _ _ R0.out
  have f2 := frozen_of_row _ _ 2 _ _ R0.out
  have f3 := frozen_of_row _ _ 3 _ _ R0.out
  have f4 := frozen_of_row _ _ 4 _ _ R0.out
  have f5 := frozen_of_row _ _ 5 _ _ R0.out
  have d0 := cell_heap R1.out (i := 0) rfl
  have d1 := cell_heap R1.out (i := 1) rfl
  have d2 := cell_heap R1.out (i := 2) rfl
  have d3 := cell_heap R1.out (i := 3) rfl
  have d4 := cell_heap R1.out (i := 4) rfl
  have d5 := cell_heap R1.out (i := 5) rfl
  have g0 := frozen_of_row _ _ 0 _ _ R1.out
  have g1 := frozen_of_row _ _ 1 _ _ R1.out
  have g2 := frozen_of_row _ _ 2 _ _ R1.out
  have g3 := frozen_of_row _ _ 3 _ _ R1.out
  have g4 := frozen_of_row _ _ 4 _ _ R1.out
  have g5 := frozen_of_row _ _ 5 _ _ R1.out
  refine wpT_oneW 2 rfl (by rfl) (by kernel_rfl) ?_
  go_simp
  refine ⟨⟨(sets_other (by omega)).trans R3.out, (sets_other (by omega)).trans R5.out⟩, ?_⟩
  refine wpT_oneW 3 rfl (by rfl) (by kernel_rfl) ?_
  go_simp
  refine wpT_done (by kernel_rfl) ?_ _
  go_wp2_with fail
  exact exm_end ((sets_other (by omega)).trans (sets_row R0.out)) (sets_row ((sets_other (by omega)).trans R1.out)) ⟨_, _, rfl, ⟨valU_ok ((valU_iff _).1 (by decide)), pts_sets (pts_sets A2.out (fun k hk => by cases hk; first | omega | (dsimp only; omega) | (simp; done) | (simp; omega))) (fun k hk => by cases hk; first | omega | (dsimp only; omega) | (simp; done) | (simp; omega))⟩, ⟨valU_ok ((valU_iff _).1 (by decide)), pts_sets (pts_sets A4.out (fun k hk => by cases hk; first | omega | (dsimp only; omega) | (simp; done) | (simp; omega))) (fun k hk => by cases hk; first | omega | (dsimp only; omega) | (simp; done) | (simp; omega))⟩, below_six' (below_six' HB.out (by omega)) (by omega)⟩
end Go.Proofs.YtcamncipkofgkaaDoor
/- UntEnc: The contracts of encoder.unit and Encode. -/
namespace Unt
open Pln Putlog
def coords : List Pt → List Int
  | [] => []
  | p :: l => p.1 :: p.2 :: coords l
theorem coords_app : ∀ a b : List Pt, coords (a ++ b) = coords a ++ coords b
  | [], _ => rfl
  | p :: a, b => by simp [coords, coords_app a b]
def headU (u : U) : List Int := [u.id, u.kind, u.mat, u.back, u.front, (u.shape.length : Int)]
def numsU (u : U) : List Int := headU u ++ coords u.shape
theorem take_vxl {l : List Pt} {i j : Nat} (h : i < (l.take j).length) : vx (l.take j) i = vx l i := by
  rw [List.length_take] at h
  unfold vx; rw [List.getD_eq_getElem?_getD, List.getD_eq_getElem?_getD, List.getElem?_take_of_lt (by omega)]
theorem encs_two (a b : Int) : encs [a, b] = enc a ++ enc b := by simp [encs]
theorem coords_snoc {l : List Pt} {k : Nat} (hk : k < l.length) : encs (coords (l.take (k + 1))) = encs (coords (l.take k)) ++ encs [(vx l k).1, (vx l k).2] := by
  rw [List.take_add_one, List.getElem?_eq_getElem hk, coords_app, encs_app, ← vx_eq hk]; rfl
theorem coords_ok {l : List Pt} (h : ∀ i, i < l.length → On (vx l i)) : EncOk (coords l) := by
  have : ∀ l : List Pt, (∀ p ∈ l, On p) → EncOk (coords l) := by
    intro l
    induction l with
    | nil => intro _ x hx; simp [coords] at hx
    | cons p l ih =>
      intro h x hx
      have hp := h p (by simp)
      have := hp.x0; have := hp.x1; have := hp.y0; have := hp.y1
      simp only [coords, List.mem_cons] at hx
      rcases hx with rfl | rfl | hx
      · omega
      · omega
      · exact ih (fun q hq => h q (by simp [hq])) x hx
  exact this l fun p hp => by obtain ⟨i, hi, rfl⟩ := mem_vx hp; exact h i hi
theorem coords_len : ∀ l : List Pt, (coords l).length = 2 * l.length
  | [] => rfl
  | p :: l => by simp [coords, coords_len l]; omega
end Unt
namespace Go.Proofs.YtcamncipkofgkaaDoor
open Go.RowKit Go.Shelf Pln Unt Putlog
theorem ButB.pre {b : Nat} {w w1 w2 : World} (hB : Below w.heap.size w w1) (k : ButB b w1 w2) : ButB b w w2 := ((butRefl b w).below hB).trans k
theorem ubox_but {b x : Nat} {w w1 : World} {u : U} {s : Value} (hn : x ≠ b) (hb : ButB b w w1) (h : UBox w x u s) : UBox w1 x u s :=
  ⟨hb.cell hn h.c0, hb.cell hn h.c1, hb.cell hn h.c2, hb.cell hn h.c3, hb.cell hn h.c4, hb.cell hn h.c5⟩
theorem below_but {b : Nat} {w w1 w2 : World} (h : Below w.heap.size w w1) (k : ButB b w1 w2) (hb : w.heap.size ≤ b) : Below w.heap.size w w2 :=
  ⟨k.g.os.trans h.os, k.g.tape.trans h.tape, k.g.output.trans h.output, Nat.le_trans h.size k.g.size, fun i hi => (k.g.block i (Nat.lt_of_lt_of_le hi h.size) (fun e => by cases e; omega)).trans (h.block i hi)⟩
theorem pts_but {b : Nat} {w w1 : World} {g o n c : Nat} {l : List Pt} (hn : g ≠ b) (hb : ButB b w w1) (h : PtsAt w (.slice (some ⟨g, o, none⟩) n c) l) : PtsAt w1 (.slice (some ⟨g, o, none⟩) n c) l := by
  obtain ⟨⟨a, c', he, h1, h2, h3⟩, h4⟩ := h
  refine ⟨⟨a, c', he, h1, h2, ?_⟩, h4⟩
  rcases h3 with h3 | ⟨g', o', h5, h6⟩
  · exact .inl h3
  · rw [h5] at he
    cases he
    exact .inr ⟨g, o, h5, fun j hj => ⟨hb.cell hn (h6 j hj).1, hb.cell hn (h6 j hj).2⟩⟩
set_option maxRecDepth 100000 in
set_option maxHeartbeats 1000000 in
theorem encUnit_w (b : Nat) (t : TypeId) (T : List UInt8) (u : U) (hv : ValU u) (g o n c : Nat) (hgb : g ≠ b) (hT : T.length ≤ 1000) (w : World) (hb : TBox w b t T) (hs : PtsAt w (.slice (some ⟨g, o, none⟩) n c) u.shape) :
    Calls Tryd.prog 62 #[.pointer (some ⟨b, 0, none⟩), uv u (.slice (some ⟨g, o, none⟩) n c)] w fun e w' => e = .returned (.tuple #[]) ∧ TBox w' b t (T ++ encs (numsU u)) ∧ ButB b w w' := by
  obtain ⟨hn, _, _, _⟩ := at_cells hs
  have hn3 := hv.v.lo
  have hn8 := hv.v.hi
  rw [← hn] at hn3 hn8
  have HN := Lib.hid hn
  have hbl : b < w.heap.size := lt_of_cell hb.c0
  obtain ⟨W, hW⟩ : ∃ W, W = w.alloc (uo u (.slice (some ⟨g, o, none⟩) n c)) := ⟨_, rfl⟩
  have hA : Below w.heap.size w W := by rw [hW]; exact alloc_below _ _
  have hU : UBox W w.heap.size u (.slice (some ⟨g, o, none⟩) n c) := by rw [hW]; exact UBox.new _ _ _
  have HS := Lib.hid (hs.via hA)
  have HTB := Lib.hid (hb.via hA)
  have HBA := Lib.hid hA
  have HBB := Lib.hid (butRefl b W)
  have HXB : Hid (w.heap.size ≠ b) := Lib.hid (by omega)
  have HVV := Lib.hid hv
  have EN : Hid (numsU u = headU u ++ coords u.shape) := Lib.hid rfl
  have EH : Hid (headU u = [u.id, u.kind, u.mat, u.back, u.front, (n : Int)]) := Lib.hid (by unfold headU; rw [← hn])
  have hok : EncOk (headU u) := by
    have := hv.id0; have := hv.id1; have := hv.k0; have := hv.k1; have := hv.m0; have := hv.m1; have := hv.b0; have := hv.bf; have := hv.f1
    rw [EH.out]
    intro x hx
    simp at hx
    rcases hx with rfl | rfl | rfl | rfl | rfl | rfl <;> omega
  rw [EH.out] at hok EN
  have HOK := Lib.hid hok
  have HX := Lib.hid hU
  have hlh := encs_len hok
  have hnb : (n : Int) ≤ 8 := by omega
  clear hs hb hv hA hU hok hn
  generalize numsU u = nu at *
  unfold uo at hW
  unfold uv
  obtain ⟨i, k, m, sh, bk, f⟩ := u
  dsimp only at *
  go_enter Tryd.func62, Tryd.ntmps62
  go_upto_region 1 with fail
  rw [← hW]
  clear hW
  obtain ⟨c0, c1, c2, c3, c4, c5⟩ := HX.out
  dsimp only at c0 c1 c2 c3 c4 c5
  go_cut [] (fun wx => TBox wx b t (T ++ encs [i, k, m, bk, f, (n : Int)]) ∧ ButB b W wx)
  case first =>
    refine (wpIn_wide (n := 5)).1 ?_
    refine wpIn_region_T (fun w' => Below W.drew.heap.size W.drew w') 17 (by kernel_rfl) ?_
    have hd : Below W.heap.size W W.drew := (Below.refl _ _).drew
    have HTD := Lib.hid (HTB.out.via hd)
    have HBD := Lib.hid (HBB.out.below hd)
    generalize W.drew = wd at *
    have c0 := keptBelow hd c0
    have c1 := keptBelow hd c1
    have c2 := keptBelow hd c2
    have c3 := keptBelow hd c3
    have c4 := keptBelow hd c4
    have c5 := keptBelow hd c5
    refine wpT_tk 0 6 (v := ?_) (Below.refl _ _) rfl rfl (by rfl) (hy := fun w hw => ?_) (h := ?_)
    rotate_left
    · go_simp; with_reducible rfl
    try simp only [Act.put, List.setIfInBounds_toArray, List.set_cons_zero, List.set_cons_succ]
    refine wpT_tk 1 7 (v := ?_) (Below.refl _ _) rfl rfl (by rfl) (hy := fun w hw => ?_) (h := ?_)
    rotate_left
    · go_simp; with_reducible rfl
    try simp only [Act.put, List.setIfInBounds_toArray, List.set_cons_zero, List.set_cons_succ]
    refine wpT_tk 2 8 (v := ?_) (Below.refl _ _) rfl rfl (by rfl) (hy := fun w hw => ?_) (h := ?_)
    rotate_left
    · go_simp; with_reducible rfl
    try simp only [Act.put, List.setIfInBounds_toArray, List.set_cons_zero, List.set_cons_succ]
    refine wpT_tk 3 9 (v := ?_) (Below.refl _ _) rfl rfl (by rfl) (hy := fun w hw => ?_) (h := ?_)
    rotate_left
    · go_simp; with_reducible rfl
    try simp only [Act.put, List.setIfInBounds_toArray, List.set_cons_zero, List.set_cons_succ]
    refine wpT_tk 4 10 (v := ?_) (Below.refl _ _) rfl rfl (by rfl) (hy := fun w hw => ?_) (h := ?_)
    rotate_left
    · have c0 := keptBelow hw c0; go_simp; with_reducible rfl
    try simp only [Act.put, List.setIfInBounds_toArray, List.set_cons_zero, List.set_cons_succ]
    refine wpT_tk 5 11 (v := ?_) (Below.refl _ _) rfl rfl (by rfl) (hy := fun w hw => ?_) (h := ?_)
    rotate_left
    · go_simp; with_reducible rfl
    try simp only [Act.put, List.setIfInBounds_toArray, List.set_cons_zero, List.set_cons_succ]
    refine wpT_tk 6 12 (v := ?_) (Below.refl _ _) rfl rfl (by rfl) (hy := fun w hw => ?_) (h := ?_)
    rotate_left
    · have c1 := keptBelow hw c1; go_simp; with_reducible rfl
    try simp only [Act.put, List.setIfInBounds_toArray, List.set_cons_zero, List.set_cons_succ]
    refine wpT_tk 7 13 (v := ?_) (Below.refl _ _) rfl rfl (by rfl) (hy := fun w hw => ?_) (h := ?_)
    rotate_left
    · go_simp; with_reducible rfl
    try simp only [Act.put, List.setIfInBounds_toArray, List.set_cons_zero, List.set_cons_succ]
    refine wpT_tk 8 14 (v := ?_) (Below.refl _ _) rfl rfl (by rfl) (hy := fun w hw => ?_) (h := ?_)
    rotate_left
    · have c2 := keptBelow hw c2; go_simp; with_reducible rfl
    try simp only [Act.put, List.setIfInBounds_toArray, List.set_cons_zero, List.set_cons_succ]
    refine wpT_tk 9 15 (v := ?_) (Below.refl _ _) rfl rfl (by rfl) (hy := fun w hw => ?_) (h := ?_)
    rotate_left
    · go_simp; with_reducible rfl
    try simp only [Act.put, List.setIfInBounds_toArray, List.set_cons_zero, List.set_cons_succ]
    refine wpT_tk 10 16 (v := ?_) (Below.refl _ _) rfl rfl (by rfl) (hy := fun w hw => ?_) (h := ?_)
    rotate_left
    · have c4 := keptBelow hw c4; go_simp; with_reducible rfl
    try simp only [Act.put, List.setIfInBounds_toArray, List.set_cons_zero, List.set_cons_succ]
    refine wpT_tk 11 17 (v := ?_) (Below.refl _ _) rfl rfl (by rfl) (hy := fun w hw => ?_) (h := ?_)
    rotate_left
    · go_simp; with_reducible rfl
    try simp only [Act.put, List.setIfInBounds_toArray, List.set_cons_zero, List.set_cons_succ]
    refine wpT_tk 12 18 (v := ?_) (Below.refl _ _) rfl rfl (by rfl) (hy := fun w hw => ?_) (h := ?_)
    rotate_left
    · have c5 := keptBelow hw c5; go_simp; with_reducible rfl
    try simp only [Act.put, List.setIfInBounds_toArray, List.set_cons_zero, List.set_cons_succ]
    refine wpT_tk 13 19 (v := ?_) (Below.refl _ _) rfl rfl (by rfl) (hy := fun w hw => ?_) (h := ?_)
    rotate_left
    · go_simp; with_reducible rfl
    try simp only [Act.put, List.setIfInBounds_toArray, List.set_cons_zero, List.set_cons_succ]
    refine wpT_tk 14 20 (v := ?_) (Below.refl _ _) rfl rfl (by rfl) (hy := fun w hw => ?_) (h := ?_)
    rotate_left
    · have c3 := keptBelow hw c3; go_simp; with_reducible rfl
    try simp only [Act.put, List.setIfInBounds_toArray, List.set_cons_zero, List.set_cons_succ]
    refine wpT_tk 15 21 (v := ?_) (Below.refl _ _) rfl rfl (by rfl) (hy := fun w hw => ?_) (h := ?_)
    rotate_left
    · go_simp; with_reducible rfl
    try simp only [Act.put, List.setIfInBounds_toArray, List.set_cons_zero, List.set_cons_succ]
    refine wpT_one 16 rfl rfl (by kernel_rfl) ?_
    go_simp
    refine ⟨alloc_below _ _, ?_⟩
    refine wpT_one 17 rfl rfl (by kernel_rfl) ?_
    go_simp
    refine ⟨trivial, ?_⟩
    have hA2 := alloc_below wd (.cells #[.int .i64 i, .int .i64 k, .int .i64 m, .int .i64 bk, .int .i64 f, .int .i64 n] 3)
    have hne : wd.heap.size ≠ b := by have := lt_of_cell HTD.out.c0; omega
    have hin : IntsIn (wd.alloc (.cells #[.int .i64 i, .int .i64 k, .int .i64 m, .int .i64 bk, .int .i64 f, .int .i64 n] 3)) wd.heap.size 0 [i, k, m, bk, f, (n : Int)] := fun j hj => by
      have hj6 : j = 0 ∨ j = 1 ∨ j = 2 ∨ j = 3 ∨ j = 4 ∨ j = 5 := by simp at hj; omega
      rcases hj6 with rfl | rfl | rfl | rfl | rfl | rfl <;> rw [Nat.zero_add] <;> exact cell_rowN wd _ _ _ rfl
    refine (callsIn_wide.2 (numbers_w b t T [i, k, m, bk, f, (n : Int)] wd.heap.size 0 6 hne (by simp) (by omega) HOK.out _ (HTD.out.via hA2) hin)).mono ?_
    rintro e w3 ⟨rfl, hT3, hB3⟩
    have hB4 := HBD.out.trans (ButB.pre hA2 hB3)
    refine wpT_done (by kernel_rfl) ?_ _
    go_wp2_with fail
    go_meet
    case rel => exact ⟨hT3, hB4⟩
  case rest =>
    obtain ⟨htc, hbc⟩ := hcut
    clear c0 c1 c2 c3 c4 c5 HTB HBB
    have HTC := Lib.hid htc
    have HBC := Lib.hid hbc
    clear htc hbc
    have HXC := Lib.hid (ubox_but HXB.out HBC.out HX.out)
    obtain ⟨c0, c1, c2, c3, c4, c5⟩ := HXC.out
    dsimp only at c0 c1 c2 c3 c4 c5
    have HSN := Lib.hid (fun j hj => coords_snoc (l := sh) (k := j) hj)
    have HCL := Lib.hid (fun j => encs_len (coords_ok (l := sh.take j) (fun i hi => by
      rw [take_vxl hi]
      exact HVV.out.v.on i (by rw [List.length_take] at hi; show i < sh.length; omega))))
    have EN2 : Hid (encs nu = encs [i, k, m, bk, f, (n : Int)] ++ encs (coords sh)) := Lib.hid (by rw [EN.out, encs_app])
    generalize encs [i, k, m, bk, f, (n : Int)] = H at *
    go_wp2_with fail
    go_loopw [27] (fun x wr => ∃ j : Nat, j ≤ n ∧ x = .int .i64 j ∧ TBox wr b t (T ++ H ++ encs (coords (sh.take j))) ∧ ButB b W wr) (fun x _ => n - (intOf x).toNat)
    case atStart => exact ⟨0, by omega, rfl, by simpa [coords, encs] using HTC.out, HBC.out⟩
    case round =>
      obtain ⟨j, hj, rfl, htb, hbb⟩ := hrel
      have HTr := Lib.hid htb
      have HBr := Lib.hid hbb
      clear htb hbb c0 c1 c2 c3 c4 c5
      by_cases hlt : j < n
      · have hlt' : (j : Int) < n := by omega
        have hjl : j < sh.length := by have := HN.out; omega
        obtain ⟨d0, d1⟩ := (at_cells (pts_but hgb HBr.out HS.out)).2.2.2 j hjl
        have hon := HVV.out.v.on j hjl
        have hsn := HSN.out j hjl
        have hcl := HCL.out j
        rw [coords_len, List.length_take] at hcl
        have HSJ := Lib.hid hsn
        clear hsn
        change On (vx sh j) at hon
        generalize vx sh j = p at *
        obtain ⟨p1, p2⟩ := p
        obtain ⟨o1, o2, o3, o4⟩ := hon
        dsimp only at d0 d1 o1 o2 o3 o4
        have hok2 : EncOk [p1, p2] := fun x hx => by
          simp at hx
          rcases hx with rfl | rfl <;> omega
        have HOK2 := Lib.hid hok2
        clear hok2 hjl
        have HPB := Lib.hid (PBox.new wr p1 p2)
        have hA3 := alloc_below wr (.cells #[.int .i64 p1, .int .i64 p2] 38)
        have HT3 := Lib.hid (HTr.out.via hA3)
        have HB3 := Lib.hid (HBr.out.below hA3)
        clear hA3
        obtain ⟨W3, hW3⟩ : ∃ W3, W3 = wr.alloc (.cells #[.int .i64 p1, .int .i64 p2] 38) := ⟨_, rfl⟩
        obtain ⟨bp, hbp⟩ : ∃ bp, bp = wr.heap.size := ⟨_, rfl⟩
        go_upto_region 5 with fail
        rw [← hbp, ← hW3] at HPB ⊢
        rw [← hW3] at HT3 HB3
        clear hW3 hbp
        have e0 := HPB.out.c0
        have e1 := HPB.out.c1
        dsimp only at e0 e1
        refine (wpIn_wide (n := 5)).1 ?_
        refine wpIn_region_T (fun w' => Below W3.drew.heap.size W3.drew w') 8 (by kernel_rfl) ?_
        have hd : Below W3.heap.size W3 W3.drew := (Below.refl _ _).drew
        have HTD := Lib.hid (HT3.out.via hd)
        have HBD := Lib.hid (HB3.out.below hd)
        generalize W3.drew = wd at *
        have e0 := keptBelow hd e0
        have e1 := keptBelow hd e1
        refine wpT_tk 0 31 (v := ?_) (Below.refl _ _) rfl rfl (by rfl) (hy := fun w hw => ?_) (h := ?_)
        rotate_left
        · go_simp; with_reducible rfl
        try simp only [Act.put, List.setIfInBounds_toArray, List.set_cons_zero, List.set_cons_succ]
        refine wpT_tk 1 32 (v := ?_) (Below.refl _ _) rfl rfl (by rfl) (hy := fun w hw => ?_) (h := ?_)
        rotate_left
        · go_simp; with_reducible rfl
        try simp only [Act.put, List.setIfInBounds_toArray, List.set_cons_zero, List.set_cons_succ]
        refine wpT_tk 2 33 (v := ?_) (Below.refl _ _) rfl rfl (by rfl) (hy := fun w hw => ?_) (h := ?_)
        rotate_left
        · go_simp; with_reducible rfl
        try simp only [Act.put, List.setIfInBounds_toArray, List.set_cons_zero, List.set_cons_succ]
        refine wpT_tk 3 34 (v := ?_) (Below.refl _ _) rfl rfl (by rfl) (hy := fun w hw => ?_) (h := ?_)
        rotate_left
        · go_simp; with_reducible rfl
        try simp only [Act.put, List.setIfInBounds_toArray, List.set_cons_zero, List.set_cons_succ]
        refine wpT_tk 4 35 (v := ?_) (Below.refl _ _) rfl rfl (by rfl) (hy := fun w hw => ?_) (h := ?_)
        rotate_left
        · have e0 := keptBelow hw e0; go_simp; with_reducible rfl
        try simp only [Act.put, List.setIfInBounds_toArray, List.set_cons_zero, List.set_cons_succ]
        refine wpT_tk 5 36 (v := ?_) (Below.refl _ _) rfl rfl (by rfl) (hy := fun w hw => ?_) (h := ?_)
        rotate_left
        · go_simp; with_reducible rfl
        try simp only [Act.put, List.setIfInBounds_toArray, List.set_cons_zero, List.set_cons_succ]
        refine wpT_tk 6 37 (v := ?_) (Below.refl _ _) rfl rfl (by rfl) (hy := fun w hw => ?_) (h := ?_)
        rotate_left
        · have e1 := keptBelow hw e1; go_simp; with_reducible rfl
        try simp only [Act.put, List.setIfInBounds_toArray, List.set_cons_zero, List.set_cons_succ]
        refine wpT_one 7 rfl rfl (by kernel_rfl) ?_
        go_simp
        refine ⟨alloc_below _ _, ?_⟩
        refine wpT_one 8 rfl rfl (by kernel_rfl) ?_
        go_simp
        refine ⟨trivial, ?_⟩
        have hA4 := alloc_below wd (.cells #[.int .i64 p1, .int .i64 p2] 3)
        have hne : wd.heap.size ≠ b := by have := lt_of_cell HTD.out.c0; omega
        have hin : IntsIn (wd.alloc (.cells #[.int .i64 p1, .int .i64 p2] 3)) wd.heap.size 0 [p1, p2] := fun j hj => by
          have hj6 : j = 0 ∨ j = 1 := by simp at hj; omega
          rcases hj6 with rfl | rfl <;> rw [Nat.zero_add] <;> exact cell_rowN wd _ _ _ rfl
        refine (callsIn_wide.2 (numbers_w b t (T ++ H ++ encs (coords (sh.take j))) [p1, p2] wd.heap.size 0 2 hne (by simp) (by simp at hlh ⊢; omega) HOK2.out _ (HTD.out.via hA4) hin)).mono ?_
        rintro e w3 ⟨rfl, hT3, hB3⟩
        have HBF := Lib.hid (HBD.out.trans (ButB.pre hA4 hB3))
        rw [List.append_assoc, ← HSJ.out] at hT3
        have HTF := Lib.hid hT3
        clear hT3 hB3
        refine wpT_done (by kernel_rfl) ?_ _
        go_wp2_with fail
        go_roundw
        case rel => exact ⟨j + 1, by omega, by go_num, HTF.out, HBF.out⟩
        case measure => simp [intOf]; omega
      · obtain rfl : n = j := by omega
        have HTF : Hid (TBox wr b t (T ++ encs nu)) := Lib.hid (by
          have := HTr.out
          rw [HN.out, List.take_length, List.append_assoc] at this
          rw [EN2.out]
          exact this)
        go_wp2_with fail
        go_end0
        exact ⟨rfl, HTF.out, ButB.pre HBA.out HBr.out⟩

def encU (u : U) : List UInt8 := encs (numsU u)
def encUV (u : U) : Value := if valU u = true then .tuple #[.string ⟨(encU u).toArray⟩, .int .i64 0] else .tuple #[.string ⟨#[]⟩, .int .i64 80]
set_option maxRecDepth 100000 in
set_option maxHeartbeats 1000000 in
theorem encode_w (u : U) (s : Value) (w : World) (h : UAt w s u) :
    Calls Tryd.prog 33 #[uv u s] w fun e w' => e = .returned (encUV u) ∧ Below w.heap.size w w' := by
  have HV := Lib.hid (fun w1 (hB : Below w.heap.size w w1) => validU_w u s w1 (h.via hB))
  have HU := Lib.hid (UBox.new w u s)
  have HB := Lib.hid (alloc_below w (uo u s))
  have HE : Hid (encUV u = if valU u = true then .tuple #[.string ⟨(encU u).toArray⟩, .int .i64 0] else .tuple #[.string ⟨#[]⟩, .int .i64 80]) := Lib.hid rfl
  have HAT := Lib.hid h.at_
  obtain ⟨as_, cs_, hs, _⟩ := h.at_.at_
  subst hs
  clear h
  generalize encUV u = ev at *
  obtain ⟨W, hW⟩ : ∃ W, W = w.alloc (uo u (.slice as_ u.shape.length cs_)) := ⟨_, rfl⟩
  obtain ⟨bx, hbx⟩ : ∃ bx, bx = w.heap.size := ⟨_, rfl⟩
  rcases hv : valU u with _ | _
  · rw [hv] at HE HV
    have hev : ev = .tuple #[.string ⟨#[]⟩, .int .i64 80] := HE.out
    subst hev
    clear hv HE
    unfold uo at HU HB hW
    unfold uv at *
    obtain ⟨i, k, m, sh, b, f⟩ := u
    dsimp only at *
    go_enter Tryd.func33, Tryd.ntmps33
    go_upto_region 1 with fail
    rw [← hW, ← hbx]
    rw [← hW] at HU HB
    rw [← hbx] at HU
    clear hW hbx
    obtain ⟨c0, c1, c2, c3, c4, c5⟩ := HU.out
    dsimp only at c0 c1 c2 c3 c4 c5
    go_wp2_with fail
    refine (HV.out _ HB.out).mono ?_
    rintro e w1 ⟨rfl, hB1⟩
    have HB1 := Lib.hid (belowStep HB.out hB1)
    clear hB1
    go_wp2_with fail
    go_ret2
    exact ⟨rfl, HB1.out⟩
  · have vu := (valU_iff u).1 hv
    rw [hv] at HE HV
    have hev : ev = .tuple #[.string ⟨(encU u).toArray⟩, .int .i64 0] := HE.out
    subst hev
    obtain ⟨g, o, c, he, _⟩ := at_some HAT.out (by have := vu.v.lo; omega)
    cases he
    have HEU := Lib.hid (fun (b : Nat) (hgb : g ≠ b) (t : TypeId) (w1 : World) (hb : TBox w1 b t []) (hB : Below w.heap.size w w1) => encUnit_w b t [] u vu g o u.shape.length cs_ hgb (by simp) w1 hb (HAT.out.via hB))
    have HGW : Hid (g < w.heap.size) := Lib.hid (by
      have := (at_cells HAT.out).2.2.2 0 (by have := vu.v.lo; omega)
      exact lt_of_cell this.1)
    simp only [List.nil_append] at HEU
    clear hv HE vu
    unfold encU
    generalize encs (numsU u) = R at *
    unfold uo at HU HB hW
    unfold uv at *
    obtain ⟨i, k, m, sh, b, f⟩ := u
    dsimp only at *
    go_enter Tryd.func33, Tryd.ntmps33
    go_upto_region 1 with fail
    rw [← hW, ← hbx]
    rw [← hW] at HU HB
    rw [← hbx] at HU
    have hsz : w.heap.size = bx := hbx.symm
    clear hW hbx
    obtain ⟨c0, c1, c2, c3, c4, c5⟩ := HU.out
    dsimp only at c0 c1 c2 c3 c4 c5
    go_wp2_with fail
    refine (HV.out _ HB.out).mono ?_
    rintro e w1 ⟨rfl, hB1⟩
    have HB1 := Lib.hid (belowStep HB.out hB1)
    have HU1 := Lib.hid (HU.out.via hB1)
    clear hB1 c0 c1 c2 c3 c4 c5
    have hA := alloc_below w1 (.cells #[.string ⟨#[]⟩] 94)
    have HTB := Lib.hid (show TBox (w1.alloc (.cells #[.string ⟨#[]⟩] 94)) w1.heap.size 94 [] from heap_alloc_new w1 _)
    have HU2 := Lib.hid (HU1.out.via hA)
    have HB2 := Lib.hid (belowStep HB1.out hA)
    have HNE : Hid (g ≠ w1.heap.size) := Lib.hid (by have := HGW.out; have := HB1.out.size; omega)
    have HLW : Hid (w.heap.size ≤ w1.heap.size) := Lib.hid HB1.out.size
    clear hA
    obtain ⟨c0, c1, c2, c3, c4, c5⟩ := HU2.out
    dsimp only at c0 c1 c2 c3 c4 c5
    go_wp2_with fail
    refine (HEU.out _ HNE.out _ _ HTB.out HB2.out).mono ?_
    rintro e w3 ⟨rfl, hT3, hB3⟩
    have t0 := hT3.c0
    have HB3 := Lib.hid (show Below w.heap.size w w3 from below_but HB2.out hB3 HLW.out)
    clear hT3 hB3
    go_wp2_with fail
    go_ret2
    exact ⟨rfl, HB3.out⟩
end Go.Proofs.YtcamncipkofgkaaDoor
