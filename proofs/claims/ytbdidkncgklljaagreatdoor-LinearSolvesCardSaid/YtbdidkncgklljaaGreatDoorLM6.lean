/- Several texts of layers 3 and 4, one behind the other: LinTabN, RatStr, LinVec, LinRep. -/
import Derived.Laws.CopyOwn
import Derived.Test.YtbdidkncgklljaaGreatDoorLM5
/- LinTabN: The contract of newTable. -/
namespace Go.Proofs.YtbdidkncgklljaaGreatDoor
open Go.RowKit Putlog

theorem inf_nums : (Tryz.prog.info? 77).map (fun i => (i.zero, i.size, i.bytes)) = some (some (.slice none 0 0), 1, 24) := by kernel_rfl
/-- A number of a row grows by another one. -/
theorem add_row {l : List Int} {i p g o : Nat} {y : Int} (W : World) (hz : NumB p (rowL l) W) (hi : i < l.length) (hy : ∀ j, j < 10 → W.cell? ⟨g, o + j, none⟩ = some (.int .u64 (wd y j))) (hne : g ≠ p) :
    Calls Tryz.prog 70 #[.pointer (some ⟨p, i * 10, none⟩), .pointer (some ⟨g, o, none⟩), .int .u64 1, .int .i64 (0 : Nat)] W fun e w' => e = .returned (.tuple #[]) ∧ NumB p (rowL (l.set i (l.getD i 0 + y))) w' ∧ OnlyAt p W w' := by
  have hz' := hz
  rw [rowL_split hi] at hz'
  have h := add_at (l.getD i 0) y 1 (rowL (l.take i)) (rowL (l.drop (i + 1))) 0 p g o W (by decide) (by decide) (by decide) hz' hy hne
  rw [rowL_pre hi, Int.pow_zero, Int.mul_one, Int.mul_one] at h
  rw [rowL_set hi]
  exact h
theorem colOfA_colL (s : SysP) (j : Nat) : colOfA s.rows.length (sysA s) j = colL s j := by
  apply List.ext_getElem?
  intro i
  by_cases h : i < s.rows.length
  · have h1 := colOfA_get (n := s.rows.length) (sysA s) j h
    have h2 := colL_get s j i
    rw [List.getD_eq_getElem?_getD] at h1 h2
    rw [List.getElem?_eq_getElem (by rw [colOfA_len]; exact h)] at h1 ⊢
    rw [List.getElem?_eq_getElem (by rw [colL_len]; exact h)] at h2 ⊢
    congr 1
    exact h1.trans h2.symm
  · rw [List.getElem?_eq_none (by rw [colOfA_len]; omega), List.getElem?_eq_none (by rw [colL_len]; omega)]
def rowV (n : Nat) (rb : Nat → Nat) (i : Nat) : Value := .slice (some ⟨rb i, 0, none⟩) (n + 1) (n + 1)
def allTo (n : Nat) (b : Nat → Int) (k : Nat) : List Int := rowOf n (fun _ l => sumZ (fun r => rowH n b r l) k) 0
theorem owns_below {w w' : World} {base : Nat} {e : TypeId} {size : Nat} {v : Value} {n : Nat} {xs : List Value} (h : w.ownsRow base e size v n xs) (hB : Below w.heap.size w w') : w'.ownsRow base e size v n xs := by
  refine ⟨h.1, ?_⟩
  rcases h.2 with h0 | ⟨g, cap, cur, hv, hb, hg, h1⟩
  · exact .inl h0
  · exact .inr ⟨g, cap, cur, hv, hb, heap_belowL hB hg, h1⟩
theorem owns_only {w w' : World} {base : Nat} {e : TypeId} {size : Nat} {v : Value} {n : Nat} {xs : List Value} {p : Nat} (h : w.ownsRow base e size v n xs) (ho : OnlyAt p w w') (hne : ∀ g, v.ownBlock = some g → g ≠ p) : w'.ownsRow base e size v n xs := by
  refine ⟨h.1, ?_⟩
  rcases h.2 with h0 | ⟨g, cap, cur, hv, hb, hg, h1⟩
  · exact .inl h0
  · exact .inr ⟨g, cap, cur, hv, hb, (ho.rest g (hne g (by rw [hv]; rfl))).trans hg, h1⟩
theorem owns_grown {w w' : World} {base : Nat} {e : TypeId} {size : Nat} {v u : Value} {n : Nat} {xs : List Value} (h : w.ownsRow base e size v n xs) (hg : w.grownBy w' u.ownBlock) (hne : ∀ g g', v.ownBlock = some g → u.ownBlock = some g' → g ≠ g') : w'.ownsRow base e size v n xs := by
  refine ⟨h.1, ?_⟩
  rcases h.2 with h0 | ⟨g, cap, cur, hv, hb, hh, h1⟩
  · exact .inl h0
  · exact .inr ⟨g, cap, cur, hv, hb, (hg.block g (Array.getElem?_eq_some_iff.1 hh).1 (fun e => hne g g (by rw [hv]; rfl) e.symm rfl)).trans hh, h1⟩
/-- A table under way. -/
structure NewM (w : World) (T al n : Nat) (b : Nat → Int) (k : Nat) (mv rv : Value) (rb : Nat → Nat) : Prop where
  c1 : w.cell? ⟨T, 1, none⟩ = some mv
  c2 : w.cell? ⟨T, 2, none⟩ = some rv
  om : w.ownsRow (al + 1) 3 1 mv k (intsV ((List.range k).map (startM n)))
  orr : w.ownsRow (al + 1) 77 1 rv k ((List.range k).map (rowV n rb))
  rows : ∀ i, i < k → NumB (rb i) (rowL (rowOf n (startR n b) i)) w ∧ al < rb i
  inj : ∀ i j, i < k → j < k → rb i = rb j → i = j
  dm : ∀ i, i < k → ∀ g, mv.ownBlock = some g → rb i ≠ g
  dr : ∀ i, i < k → ∀ g, rv.ownBlock = some g → rb i ≠ g
  dd : ∀ g g', mv.ownBlock = some g → rv.ownBlock = some g' → g ≠ g'
/-- What of a table stays. -/
structure FixM (w : World) (T gc cols n : Nat) (A : Nat → Nat → Int) : Prop where
  cc : w.cell? ⟨T, 0, none⟩ = some (.slice (some ⟨gc, 0, none⟩) cols cols)
  com : w.rangeAt T 3 (numL 1)
  stl : w.cell? ⟨T, 13, none⟩ = some (.bool false)
  fz : ∀ i, w.frozen? ⟨T, i, none⟩ = false
  col : ∀ j, j < cols → ∃ a c, w.cell? ⟨gc, j, none⟩ = some (.slice a n c) ∧ n ≤ c ∧ (c : Int) ≤ 9223372036854775807 ∧ IntsFrom w a (colOfA n A j) ∧ ∀ p o, a = some ⟨p, o, none⟩ → p < T
theorem FixM.via {w w' : World} {T gc cols n : Nat} {A : Nat → Nat → Int} (h : FixM w T gc cols n A) (hB : Below w.heap.size w w') : FixM w' T gc cols n A where
  cc := keptBelow hB h.cc
  com := range_via h.com hB
  stl := keptBelow hB h.stl
  fz := fun i => by rw [World.frozen?_of_block (hB.block T (lt_of_cell h.cc))]; exact h.fz i
  col := fun j hj => by
    obtain ⟨a, c, h1, h2, h3, h4, h5⟩ := h.col j hj
    exact ⟨a, c, keptBelow hB h1, h2, h3, h4.via hB, h5⟩
theorem FixM.only {w w' : World} {T gc cols n p : Nat} {A : Nat → Nat → Int} (h : FixM w T gc cols n A) (ho : OnlyAt p w w') (hp : T < p) (hgc : gc < T) : FixM w' T gc cols n A where
  cc := ho.cell (by omega) h.cc
  com := ho.range h.com (by omega)
  stl := ho.cell (by omega) h.stl
  fz := fun i => ho.froz (h.fz i) (by omega)
  col := fun j hj => by
    obtain ⟨a, c, h1, h2, h3, h4, h5⟩ := h.col j hj
    exact ⟨a, c, ho.cell (by omega) h1, h2, h3, ho.ints h4 (fun b o e => by have := h5 b o e; omega), h5⟩
/-- A cell of the table itself is set, or a row of the call's own grows. -/
theorem FixM.set {w : World} {T gc cols n i : Nat} {A : Nat → Nat → Int} {v : Value} (h : FixM w T gc cols n A) (hi : i = 1 ∨ i = 2) (hgc : gc < T) : FixM (w.setCell ⟨T, i, none⟩ v) T gc cols n A := by
  have ho : OnlyAt T w (w.setCell ⟨T, i, none⟩ v) := (OnlyAt.refl T w (lt_of_cell h.cc)).set i v
  have hc : ∀ o u, o ≠ i → w.cell? ⟨T, o, none⟩ = some u → (w.setCell ⟨T, i, none⟩ v).cell? ⟨T, o, none⟩ = some u := fun o u hne hu =>
    (World.cell?_setCell_other _ _ _ _ (by intro e; have := congrArg Addr.off e; dsimp only at this; omega)).trans hu
  refine ⟨hc 0 _ (by omega) h.cc, fun j u hu => hc (3 + j) u (by omega) (h.com j u hu), hc 13 _ (by omega) h.stl, fun o => by rw [World.frozen?_setCell]; exact h.fz o, fun j hj => ?_⟩
  obtain ⟨a, c, h1, h2, h3, h4, h5⟩ := h.col j hj
  exact ⟨a, c, ho.cell (by omega) h1, h2, h3, ho.ints h4 (fun b o e => by have := h5 b o e; omega), h5⟩
theorem FixM.grown {w w' : World} {T gc cols n : Nat} {A : Nat → Nat → Int} {v : Value} (h : FixM w T gc cols n A) (hg : w.grownBy w' v.ownBlock) (hv : ∀ k, v.ownBlock = some k → T < k) (hgc : gc < T) : FixM w' T gc cols n A := by
  have hT := lt_of_cell h.cc
  refine ⟨kept_own hg h.cc (fun k e => by have := hv k e; omega), fun j u hu => kept_own hg (h.com j u hu) (fun k e => by have := hv k e; omega), kept_own hg h.stl (fun k e => by have := hv k e; omega), fun i => ?_, fun j hj => ?_⟩
  · rw [hg.frozen_far ⟨T, i, none⟩ hT (fun e => by have := hv T e.symm; omega)]; exact h.fz i
  · obtain ⟨a, c, h1, h2, h3, h4, h5⟩ := h.col j hj
    refine ⟨a, c, kept_own hg h1 (fun k e => by have := hv k e; omega), h2, h3, ?_, h5⟩
    rcases h4 with h0 | ⟨p, o, q1, q2⟩
    · exact .inl h0
    · exact .inr ⟨p, o, q1, fun i hi => kept_own hg (q2 i hi) (fun k e => by have := hv k e; have := h5 p o q1; omega)⟩
theorem kept_num {w w' : World} {v : Value} (hg : w.grownBy w' v.ownBlock) {p : Nat} {l : List Value} (hc : NumB p l w) (hne : ∀ k, v.ownBlock = some k → p ≠ k) : NumB p l w' :=
  (hg.block p (Array.getElem?_eq_some_iff.1 hc).1 (fun e => hne p e.symm rfl)).trans hc
theorem NewM.via {w w' : World} {T al n : Nat} {b : Nat → Int} {k : Nat} {mv rv : Value} {rb : Nat → Nat} (h : NewM w T al n b k mv rv rb) (hB : Below w.heap.size w w') : NewM w' T al n b k mv rv rb where
  c1 := keptBelow hB h.c1
  c2 := keptBelow hB h.c2
  om := owns_below h.om hB
  orr := owns_below h.orr hB
  rows := fun i hi => ⟨(h.rows i hi).1.via hB, (h.rows i hi).2⟩
  inj := h.inj
  dm := h.dm
  dr := h.dr
  dd := h.dd
theorem NewM.only {w w' : World} {T al n p : Nat} {b : Nat → Int} {k : Nat} {mv rv : Value} {rb : Nat → Nat} (h : NewM w T al n b k mv rv rb) (ho : OnlyAt p w w') (hT : T ≠ p) (hm : ∀ g, mv.ownBlock = some g → g ≠ p) (hr : ∀ g, rv.ownBlock = some g → g ≠ p) (hrb : ∀ i, i < k → rb i ≠ p) : NewM w' T al n b k mv rv rb where
  c1 := ho.cell hT h.c1
  c2 := ho.cell hT h.c2
  om := owns_only h.om ho hm
  orr := owns_only h.orr ho hr
  rows := fun i hi => ⟨ho.num (h.rows i hi).1 (hrb i hi), (h.rows i hi).2⟩
  inj := h.inj
  dm := h.dm
  dr := h.dr
  dd := h.dd
theorem news_of_cell {w : World} {p : Nat} {v : Value} (h : w.cell? ⟨p, 0, none⟩ = some v) : ∀ j u, [v][j]? = some u → w.cell? ((⟨p, 0, none⟩ : Addr).add j) = some u
  | 0, u, e => by simp at e; subst e; exact h
  | j + 1, u, e => by simp at e
theorem one_slc (a : Option Addr) (n c : Nat) : ∀ u ∈ [Value.slice a n c], u.oneCell' = true := by intro u hu; simp at hu; subst hu; rfl
def rbN (rb : Nat → Nat) (k hb : Nat) : Nat → Nat := fun i => if i = k then hb else rb i
theorem new_dist {k q0 S0 gm gr h72 h79 T : Nat} {mv rv : Value} {rb : Nat → Nat} (HD : (∀ i, i < k → ∀ p, mv.ownBlock = some p → rb i ≠ p) ∧ (∀ i, i < k → ∀ p, rv.ownBlock = some p → rb i ≠ p) ∧ ∀ g g', mv.ownBlock = some g → rv.ownBlock = some g' → g ≠ g')
    (HOM : ∀ p, mv.ownBlock = some p → T + 1 < p ∧ p < q0) (HOR : ∀ p, rv.ownBlock = some p → T + 1 < p ∧ p < q0) (HRB : ∀ i, i < k → T + 1 < rb i ∧ rb i < q0) (h72' : mv.ownBlock = some gm ∨ gm = h72) (h79' : rv.ownBlock = some gr ∨ gr = h79)
    (h1 : q0 + 1 < S0) (h2 : S0 ≤ h72) (h3 : S0 ≤ h79) (h4 : gm < h79) (_h5 : q0 ≤ S0) : (∀ i, i < k + 1 → rbN rb k (q0 + 1) i ≠ gm) ∧ (∀ i, i < k + 1 → rbN rb k (q0 + 1) i ≠ gr) ∧ gm ≠ gr := by
  refine ⟨fun i hi => ?_, fun i hi => ?_, ?_⟩
  · unfold rbN
    split
    · rcases h72' with e | e
      · have := HOM gm e; omega
      · omega
    · have hr := HRB i (by omega)
      rcases h72' with e | e
      · exact HD.1 i (by omega) gm e
      · omega
  · unfold rbN
    split
    · rcases h79' with e | e
      · have := HOR gr e; omega
      · omega
    · have hr := HRB i (by omega)
      rcases h79' with e | e
      · exact HD.2.1 i (by omega) gr e
      · omega
  · rcases h72' with e | e <;> rcases h79' with e2 | e2
    · exact HD.2.2 gm gr e e2
    · omega
    · have := HOR gr e2; omega
    · omega
theorem new_next {w : World} {T n k q0 hb gm gr : Nat} {b : Nat → Int} {mv rv mv' rv' : Value} {rb : Nat → Nat} (t1 : w.cell? ⟨T, 1, none⟩ = some mv) (t2 : w.cell? ⟨T, 2, none⟩ = some rv)
    (om2 : w.ownsRow (T + 1 + 1) 3 1 mv' (k + 1) (intsV ((List.range k).map (startM n)) ++ [.int .i64 ((k : Int) - n)])) (orr2 : w.ownsRow (T + 1 + 1) 77 1 rv' (k + 1) ((List.range k).map (rowV n rb) ++ [.slice (some ⟨hb, 0, none⟩) (n + 1) (n + 1)]))
    (hrows : ∀ i, i < k → NumB (rb i) (rowL (rowOf n (startR n b) i)) w) (hrb : ∀ i, i < k → T + 1 < rb i ∧ rb i < q0) (nh : NumB hb (rowL (rowOf n (startR n b) k)) w) (hbq : q0 ≤ hb) (hT : T + 1 < q0) (inj : ∀ i j, i < k → j < k → rb i = rb j → i = j)
    (e1 : mv'.ownBlock = some gm) (e2 : rv'.ownBlock = some gr) (hd : (∀ i, i < k + 1 → rbN rb k hb i ≠ gm) ∧ (∀ i, i < k + 1 → rbN rb k hb i ≠ gr) ∧ gm ≠ gr) (g1 : T < gm) (g2 : T < gr) :
    NewM ((w.setCell ⟨T, 1, none⟩ mv').setCell ⟨T, 2, none⟩ rv') T (T + 1) n b (k + 1) mv' rv' (rbN rb k hb) := by
  have ne12 : (⟨T, 1, none⟩ : Addr) ≠ ⟨T, 2, none⟩ := by intro e; have := congrArg Addr.off e; dsimp only at this; omega
  have s2 : (w.setCell ⟨T, 1, none⟩ mv').cell? ⟨T, 2, none⟩ = some rv := (World.cell?_setCell_other _ _ _ _ ne12).trans t2
  refine ⟨?_, World.cell?_setCell_same' _ _ _ (by rw [s2]; rfl), ?_, ?_, ?_, ?_, ?_, ?_, ?_⟩
  · rw [World.cell?_setCell_other _ _ _ _ ne12.symm]
    exact World.cell?_setCell_same' _ _ _ (by rw [t1]; rfl)
  · have := own_set (own_set om2 (p := T) (i := 1) (u := mv') (fun p e => by rw [e1] at e; cases e; omega)) (p := T) (i := 2) (u := rv') (fun p e => by rw [e1] at e; cases e; omega)
    rw [List.range_succ, List.map_append]
    unfold intsV at this ⊢
    rw [List.map_append]
    exact this
  · have := own_set (own_set orr2 (p := T) (i := 1) (u := mv') (fun p e => by rw [e2] at e; cases e; omega)) (p := T) (i := 2) (u := rv') (fun p e => by rw [e2] at e; cases e; omega)
    rw [List.range_succ, List.map_append]
    have e : (List.range k).map (rowV n (rbN rb k hb)) = (List.range k).map (rowV n rb) := List.map_congr_left fun i hi => by
      have := List.mem_range.1 hi
      unfold rowV rbN; rw [if_neg (by omega)]
    rw [e]
    have e' : [k].map (rowV n (rbN rb k hb)) = [.slice (some ⟨hb, 0, none⟩) (n + 1) (n + 1)] := by unfold rowV rbN; simp
    rw [e']
    exact this
  · intro i hi
    unfold rbN
    by_cases e : i = k
    · subst e; rw [if_pos rfl]; exact ⟨(nh.other (by omega)).other (by omega), by omega⟩
    · rw [if_neg e]
      have := hrb i (by omega)
      exact ⟨((hrows i (by omega)).other (by omega)).other (by omega), by omega⟩
  · intro i j hi hj he
    unfold rbN at he
    by_cases e : i = k <;> by_cases e' : j = k
    · omega
    · rw [if_pos e, if_neg e'] at he; have := hrb j (by omega); omega
    · rw [if_neg e, if_pos e'] at he; have := hrb i (by omega); omega
    · rw [if_neg e, if_neg e'] at he; exact inj i j (by omega) (by omega) he
  · intro i hi g hg; rw [e1] at hg; cases hg; exact hd.1 i hi
  · intro i hi g hg; rw [e2] at hg; cases hg; exact hd.2.1 i hi
  · intro g g' h1 h2; rw [e1] at h1; rw [e2] at h2; cases h1; cases h2; exact hd.2.2
theorem own_cell {w : World} {base : Nat} {e : TypeId} {g n c : Nat} {xs : List Value} (h : w.ownsRow base e 1 (.slice (some ⟨g, 0, none⟩) n c) n xs) {j : Nat} {v : Value} (hv : xs[j]? = some v) : w.cell? ⟨g, j, none⟩ = some v ∧ w.frozen? ⟨g, j, none⟩ = false := by
  rcases h.2 with ⟨h0, _⟩ | ⟨g', cap, cur, hs, hb, hg, h1, h2, h3, h4⟩
  · cases h0
  · cases hs
    have hj : j < n := by have := (List.getElem?_eq_some_iff.1 hv).1; have := h.1; omega
    refine ⟨?_, frozen_of_row w g j _ _ hg⟩
    rw [cell_of_row w g j cur _ (0, 0) hg, ← Array.getElem?_toList, ← hv, ← h4, List.getElem?_take_of_lt (by omega)]
theorem own_cap {w : World} {base : Nat} {e : TypeId} {g n c : Nat} {xs : List Value} (h : w.ownsRow base e 1 (.slice (some ⟨g, 0, none⟩) n c) n xs) : n ≤ c ∧ (c : Int) ≤ 9223372036854775807 ∧ base ≤ g := by
  rcases h.2 with ⟨h0, _⟩ | ⟨g', cap, cur, hs, hb, hg, h1, h2, h3, h4⟩
  · cases h0
  · cases hs; exact ⟨h1, by unfold maxLen at h2; omega, hb⟩
theorem range_map_get {α : Type} (f : Nat → α) {n k : Nat} (h : k < n) : ((List.range n).map f)[k]? = some (f k) := by rw [List.getElem?_map, List.getElem?_range h]; rfl
theorem new_tab {w : World} {B T gc cols n gr cr : Nat} {A : Nat → Nat → Int} {b : Nat → Int} {mv : Value} {rb : Nat → Nat} (hfx : FixM w T gc cols n A) (t1 : w.cell? ⟨T, 1, none⟩ = some mv) (t2 : w.cell? ⟨T, 2, none⟩ = some (.slice (some ⟨gr, 0, none⟩) (n + 1) cr))
    (om : w.ownsRow (T + 1 + 1) 3 1 mv n (intsV ((List.range n).map (startM n)))) (orr : w.ownsRow (T + 1 + 1) 77 1 (.slice (some ⟨gr, 0, none⟩) (n + 1) cr) (n + 1) ((List.range n).map (rowV n rb) ++ [.slice (some ⟨T + 1, 0, none⟩) (n + 1) (n + 1)]))
    (hrows : ∀ i, i < n → NumB (rb i) (rowL (rowOf n (startR n b) i)) w ∧ T + 1 < rb i) (hall : NumB (T + 1) (rowL (allTo n b n)) w) (inj : ∀ i j, i < n → j < n → rb i = rb j → i = j)
    (dm : ∀ i, i < n → ∀ g, mv.ownBlock = some g → rb i ≠ g) (dr : ∀ i, i < n → rb i ≠ gr) (dd : ∀ g, mv.ownBlock = some g → g ≠ gr) (hB : B ≤ T) (hgc : gc < T) :
    ∃ am cm, TabM w B n cols A (startS n b) ⟨T, gc, gr, am, cm, cr, rbN rb n (T + 1)⟩ := by
  have hmv : ∃ am cm, mv = .slice am n cm ∧ (n ≤ cm ∧ (cm : Int) ≤ 9223372036854775807) ∧ (n = 0 ∨ ∃ gm, am = some ⟨gm, 0, none⟩ ∧ T + 1 < gm ∧ ∀ k, k < n → w.cell? ⟨gm, k, none⟩ = some (.int .i64 (startM n k)) ∧ w.frozen? ⟨gm, k, none⟩ = false) := by
    rcases om.2 with ⟨h0, h1⟩ | ⟨g, cap, cur, hs, _⟩
    · exact ⟨none, 0, by rw [h0, h1], by omega, .inl h1⟩
    · subst hs
      obtain ⟨c1, c2, c3⟩ := own_cap om
      refine ⟨some ⟨g, 0, none⟩, cap, rfl, ⟨c1, c2⟩, .inr ⟨g, rfl, by omega, fun k hk => own_cell om (by unfold intsV; rw [List.map_map]; exact range_map_get _ hk)⟩⟩
  obtain ⟨am, cm, rfl, hcm, hmem⟩ := hmv
  obtain ⟨c1, c2, c3⟩ := own_cap orr
  refine ⟨am, cm, hB, hgc, by show T < gr; omega, hfx.cc, t1, t2, hfx.com, hfx.stl, hfx.fz, hcm, ⟨c1, c2⟩, hfx.col, ?_, ?_, ?_⟩
  · rcases hmem with h0 | ⟨gm, rfl, h2, h3⟩
    · exact .inl h0
    · refine .inr ⟨gm, rfl, by show T < gm; omega, dd gm rfl, fun k hk => ?_, h3⟩
      show rbN rb n (T + 1) k ≠ gm
      unfold rbN
      split
      · omega
      · exact dm k (by omega) gm rfl
  · intro k hk
    show w.cell? ⟨gr, k, none⟩ = some (.slice (some ⟨rbN rb n (T + 1) k, 0, none⟩) (n + 1) (n + 1)) ∧ NumB (rbN rb n (T + 1) k) (rowL (rowOf n (startR n b) k)) w ∧ T < rbN rb n (T + 1) k ∧ rbN rb n (T + 1) k ≠ gr
    unfold rbN
    by_cases e : k = n
    · subst e
      rw [if_pos rfl]
      refine ⟨(own_cell orr (by simp)).1, ?_, by omega, by omega⟩
      have : rowOf k (startR k b) k = allTo k b k := by
        unfold allTo rowOf
        exact List.map_congr_left fun l _ => by unfold startR; rw [if_pos rfl]
      rw [this]; exact hall
    · rw [if_neg e]
      have h1 := hrows k (by omega)
      refine ⟨(own_cell orr (j := k) ?_).1, h1.1, by omega, dr k (by omega)⟩
      rw [List.getElem?_append_left (by simp; omega)]
      exact range_map_get _ (by omega)
  · intro k q hk hq he
    have he : rbN rb n (T + 1) k = rbN rb n (T + 1) q := he
    unfold rbN at he
    by_cases e : k = n <;> by_cases e' : q = n
    · omega
    · rw [if_pos e, if_neg e'] at he; have := (hrows q (by omega)).2; omega
    · rw [if_neg e, if_pos e'] at he; have := (hrows k (by omega)).2; omega
    · rw [if_neg e, if_neg e'] at he; exact inj k q (by omega) (by omega) he
theorem allTo_next (n : Nat) (b : Nat → Int) (k : Nat) : rowOf n (fun _ l => sumZ (fun r => rowH n b r l) k + (if l < n + 1 then rowH n b k l else 0)) 0 = allTo n b (k + 1) := rowOf_congr fun l hl => by rw [if_pos (by omega)]; rfl
def midA (n : Nat) (b : Nat → Int) (k i : Nat) : List Int := rowOf n (fun _ l => sumZ (fun r => rowH n b r l) k + (if l < i then rowH n b k l else 0)) 0
theorem midA_len (n : Nat) (b : Nat → Int) (k i : Nat) : (midA n b k i).length = n + 1 := rowOf_len ..
theorem midA_zero (n : Nat) (b : Nat → Int) (k : Nat) : midA n b k 0 = allTo n b k := rowOf_congr fun l _ => by rw [if_neg (by omega), Int.add_zero]
theorem midA_all (n : Nat) (b : Nat → Int) (k : Nat) : midA n b k (n + 1) = allTo n b (k + 1) := allTo_next n b k
theorem midA_set {n : Nat} (b : Nat → Int) (k : Nat) {i : Nat} (hi : i ≤ n) : (midA n b k i).set i ((midA n b k i).getD i 0 + rowH n b k i) = midA n b k (i + 1) := by
  have e0 : (midA n b k i).getD i 0 = sumZ (fun r => rowH n b r i) k := by
    unfold midA; rw [rowOf_get _ _ hi, if_neg (by omega), Int.add_zero]
  rw [e0]
  have := rowOf_set (n := n) (R := fun _ l => sumZ (fun r => rowH n b r l) k + (if l < i then rowH n b k l else 0)) (R' := fun _ l => sumZ (fun r => rowH n b r l) k + (if l < i + 1 then rowH n b k l else 0)) (k := 0) (i := i) hi (fun l _ => by
    show sumZ (fun r => rowH n b r l) k + (if l < i + 1 then rowH n b k l else 0) = if l = i then sumZ (fun r => rowH n b r i) k + (if i < i + 1 then rowH n b k i else 0) else sumZ (fun r => rowH n b r l) k + (if l < i then rowH n b k l else 0)
    by_cases e : l = i
    · subst e; rw [if_pos rfl]
    · rw [if_neg e]
      by_cases e2 : l < i
      · rw [if_pos e2, if_pos (by omega)]
      · rw [if_neg e2, if_neg (by omega)])
  rw [if_pos (by omega)] at this
  exact this
theorem rowOf_startR {n : Nat} (b : Nat → Int) {k : Nat} (hk : k < n) : rowOf n (rowH n b) k = rowOf n (startR n b) k := rowOf_congr fun l _ => by unfold startR; rw [if_neg (by omega)]
/-- A helper's row is zeros but for two numbers. -/
theorem helper_list {n : Nat} (b : Nat → Int) {k : Nat} (hk : k < n) : ((List.replicate (n + 1) 0).set k (sgV b k)).set n (sgV b k * b k) = rowOf n (startR n b) k := by
  rw [← rowOf_startR b hk, ← rowOf_zero]
  have h1 := rowOf_set (n := n) (R := fun _ _ => 0) (R' := fun _ l => if l = k then sgV b k else 0) (k := 0) (i := k) (by omega) (fun l _ => by
    show (if l = k then sgV b k else 0) = if l = k then (if k = k then sgV b k else 0) else 0
    rw [if_pos (rfl : k = k)])
  rw [if_pos rfl] at h1
  rw [h1]
  have h2 := rowOf_set (n := n) (R := fun _ l => if l = k then sgV b k else 0) (R' := fun _ l => rowH n b k l) (k := 0) (i := n) (Nat.le_refl _) (fun l _ => by
    show rowH n b k l = if l = n then rowH n b k n else if l = k then sgV b k else 0
    unfold rowH
    by_cases e : l = n
    · subst e; rw [if_pos rfl, if_pos rfl]
    · rw [if_neg e, if_neg e])
  have e : rowH n b k n = sgV b k * b k := by unfold rowH; rw [if_pos rfl]
  rw [e] at h2
  exact h2
set_option maxRecDepth 100000 in
set_option maxHeartbeats 16000000 in
theorem newTable_c (s : SysP) (a : Option Addr) (ca : Nat) (W : World) (hs : SysM W s a ca) (hv : ValidP s) :
    Calls Tryz.prog 37 #[.agg #[.int .i64 s.cols, .slice a s.rows.length ca]] W fun e w' => (∃ G : Geo, e = .returned (.pointer (some ⟨G.T, 0, none⟩)) ∧ TabM w' W.heap.size s.rows.length s.cols.toNat (sysA s) (startS s.rows.length (sysB s)) G) ∧ Below W.heap.size W w' := by
  obtain ⟨n, hn⟩ : ∃ n, n = s.rows.length := ⟨_, rfl⟩
  obtain ⟨c, hc⟩ : ∃ c : Nat, (c : Int) = s.cols := ⟨s.cols.toNat, by have := hv.lo; omega⟩
  have HS := Lib.hid hs
  have HV := Lib.hid hv
  have HCO := Lib.hid (fun w h => columns_c s a ca w h hv)
  have HWH := Lib.hid (fun w => whole_num 1 (by decide) (by decide) w)
  rw [num_one] at HWH
  obtain ⟨i0, hi0, hz0, hz1, hz2⟩ := info_numbers
  obtain ⟨j0, hj0, hy0, hy1, hy2⟩ := info_ex inf_int
  obtain ⟨l0, hl0, hx0, hx1, hx2⟩ := info_ex inf_nums
  have HI0 := Lib.hid hi0
  have HZ0 := Lib.hid hz0
  have HZ1 := Lib.hid hz1
  have HZ2 := Lib.hid hz2
  have HJ0 := Lib.hid hj0
  have HY0 := Lib.hid hy0
  have HY1 := Lib.hid hy1
  have HY2 := Lib.hid hy2
  have HL0 := Lib.hid hl0
  have HX0 := Lib.hid hx0
  have HX1 := Lib.hid hx1
  have HX2 := Lib.hid hx2
  have hc1 : (c : Int) ≤ 64 := by have := hv.hi; omega
  have hn1 : (n : Int) ≤ 18 := by have := hv.rows; omega
  have hca : (n : Int) ≤ ca := by have := hs.len; omega
  obtain ⟨m, hm⟩ : ∃ m, m = n + 1 := ⟨_, rfl⟩
  have hnm : (n : Int) < m := by omega
  have hm19 : (m : Int) ≤ 19 := by omega
  have hw1 : IntKind.i64.wrap ((n : Int) + 1) = m := by rw [IntKind.wrap_i64]; omega
  have HM' := Lib.hid hm
  rw [← hn, ← hc] at HCO
  rw [← hn, ← hc]
  rw [Int.toNat_natCast] at HCO ⊢
  have HN := Lib.hid hn
  have HC := Lib.hid hc
  have hb1 := alloc_belowL W (.cells #[.int .i64 c, .slice a n ca] 27)
  have g1 := heap_alloc_new W (.cells #[.int .i64 c, .slice a n ca] 27)
  have hs1 : (W.alloc (.cells #[.int .i64 c, .slice a n ca] 27)).heap.size = W.heap.size + 1 := by simp
  have HSZ := Lib.hid hs1
  have c1 : (W.alloc (.cells #[.int .i64 c, .slice a n ca] 27)).cell? ⟨W.heap.size, 1, none⟩ = some (.slice a n ca) := (cell_of_row _ _ 1 _ _ _ g1).trans rfl
  have c0 : (W.alloc (.cells #[.int .i64 c, .slice a n ca] 27)).cell? ⟨W.heap.size, 0, none⟩ = some (.int .i64 c) := (cell_of_row _ _ 0 _ _ _ g1).trans rfl
  have HB := Lib.hid hb1
  have HSM := Lib.hid (hs.via hb1)
  clear hs hv hn hc hi0 hz0 hz1 hz2 hj0 hy0 hy1 hy2 hl0 hx0 hx1 hx2 hb1 g1 hs1 hm
  go_enter Tryz.func37, Tryz.ntmps37
  go_upto_region 1 with fail
  change Code.wp _ _ _ _ (W.alloc (.cells #[.int .i64 c, .slice a n ca] 27))
  generalize W.alloc (.cells #[.int .i64 c, .slice a n ca] 27) = w0 at *
  go_wp2_with fail
  refine (HCO.out _ HSM.out).mono ?_
  rintro e w1 ⟨⟨gc, vs, rfl, hgc, hvl, hblk, hcol⟩, hB1⟩
  have HCB := Lib.hid (And.intro hgc (And.intro hvl (And.intro hblk hcol)))
  have c1 := keptBelow hB1 c1
  have hB1 := belowVia hB1 HB.out
  have HB1 := Lib.hid hB1
  clear hgc hvl hblk hcol hB1 HB HSM c0
  go_wp2_with fail
  refine (HWH.out _).mono ?_
  rintro e w2 ⟨rfl, hB2⟩
  have HB2 := Lib.hid hB2
  have c1 := keptBelow hB2 c1
  clear hB2
  go_upto_region 3 with fail
  obtain ⟨hgc, hvl, hblk, hcol⟩ := HCB.out
  have hbt := alloc_belowL w2 (.cells #[.slice (some ⟨gc, 0, none⟩) c c, .slice none 0 0, .slice none 0 0, .int .u64 1, .int .u64 0, .int .u64 0, .int .u64 0, .int .u64 0, .int .u64 0, .int .u64 0, .int .u64 0, .int .u64 0, .int .u64 0, .bool false] 103)
  have gt := heap_alloc_new w2 (.cells #[.slice (some ⟨gc, 0, none⟩) c c, .slice none 0 0, .slice none 0 0, .int .u64 1, .int .u64 0, .int .u64 0, .int .u64 0, .int .u64 0, .int .u64 0, .int .u64 0, .int .u64 0, .int .u64 0, .int .u64 0, .bool false] 103)
  have st : (w2.alloc (.cells #[.slice (some ⟨gc, 0, none⟩) c c, .slice none 0 0, .slice none 0 0, .int .u64 1, .int .u64 0, .int .u64 0, .int .u64 0, .int .u64 0, .int .u64 0, .int .u64 0, .int .u64 0, .int .u64 0, .int .u64 0, .bool false] 103)).heap.size = w2.heap.size + 1 := by simp
  obtain ⟨T, hT⟩ : ∃ T, T = w2.heap.size := ⟨_, rfl⟩
  rw [← hT] at gt st ⊢
  have hgcT : gc < T := by have := hblk.lt; have := HB2.out.size; omega
  have hfix : FixM (w2.alloc (.cells #[.slice (some ⟨gc, 0, none⟩) c c, .slice none 0 0, .slice none 0 0, .int .u64 1, .int .u64 0, .int .u64 0, .int .u64 0, .int .u64 0, .int .u64 0, .int .u64 0, .int .u64 0, .int .u64 0, .int .u64 0, .bool false] 103)) T gc c n (sysA s) := by
    refine ⟨(cell_of_row _ _ 0 _ _ _ gt).trans rfl, fun j v hv' => ?_, (cell_of_row _ _ 13 _ _ _ gt).trans rfl, fun i => frozen_of_row _ _ i _ _ gt, fun j hj => ?_⟩
    · rw [cell_of_row _ _ (3 + j) _ _ _ gt]
      rw [num_one] at hv'
      have hj : j < 10 := by have := (List.getElem?_eq_some_iff.1 hv').1; simpa using this
      rcases (by omega : j = 0 ∨ j = 1 ∨ j = 2 ∨ j = 3 ∨ j = 4 ∨ j = 5 ∨ j = 6 ∨ j = 7 ∨ j = 8 ∨ j = 9) with rfl | rfl | rfl | rfl | rfl | rfl | rfl | rfl | rfl | rfl <;> exact hv'
    · obtain ⟨a', c', q1, q2, q3, q4, q5⟩ := hcol j (by rw [← hvl]; rw [hvl]; exact hj)
      have hB12 := belowVia hbt HB2.out
      refine ⟨a', c', keptBelow hB12 (hblk.cell ?_), q2, q3, ?_, fun p o e => by have := (q5 p o e).2; have := HB2.out.size; omega⟩
      · rw [← q1, List.getD_eq_getElem?_getD, List.getElem?_eq_getElem (by omega)]; rfl
      · rw [HN.out, colOfA_colL]; exact q4.via hB12
  have hnew : NewM (w2.alloc (.cells #[.slice (some ⟨gc, 0, none⟩) c c, .slice none 0 0, .slice none 0 0, .int .u64 1, .int .u64 0, .int .u64 0, .int .u64 0, .int .u64 0, .int .u64 0, .int .u64 0, .int .u64 0, .int .u64 0, .int .u64 0, .bool false] 103)) T (T + 1) n (sysB s) 0 (.slice none 0 0) (.slice none 0 0) (fun _ => 0) := by
    refine ⟨(cell_of_row _ _ 1 _ _ _ gt).trans rfl, (cell_of_row _ _ 2 _ _ _ gt).trans rfl, World.ownsRow_nil _ _ _ _, World.ownsRow_nil _ _ _ _, fun i hi => by omega, fun i j hi _ _ => by omega, fun i hi => by omega, fun i hi => by omega, fun g g' e => by cases e⟩
  have c1 := keptBelow hbt c1
  have HBT := Lib.hid (belowVia hbt (belowVia HB2.out HB1.out))
  have HWT : Hid (W.heap.size < T) := Lib.hid (by have := HB2.out.size; have := hblk.lt; have := HSZ.out; omega)
  have HFX := Lib.hid hfix
  have HNW := Lib.hid hnew
  have HST := Lib.hid st
  clear hbt gt hfix hnew hT hgc hvl hblk hcol st
  generalize w2.alloc (.cells #[.slice (some ⟨gc, 0, none⟩) c c, .slice none 0 0, .slice none 0 0, .int .u64 1, .int .u64 0, .int .u64 0, .int .u64 0, .int .u64 0, .int .u64 0, .int .u64 0, .int .u64 0, .int .u64 0, .int .u64 0, .bool false] 103) = wt at *
  go_wp2_with (at_make; go_must (refine wpList_make_full _ rfl _ _ 77 rfl wt.heap.size 81 i0 (.agg zeroL.toArray) 10 Tryz.underlying77 HI0.out HZ0.out HZ1.out .i64 .i64 (m : Int) (m : Int) m rfl rfl rfl rfl (by rw [HZ2.out]; omega) (by unfold maxLen; omega) (Nat.le_refl _) ?_); intro w3 hown hgrow; have HR := Lib.hid (num_made hown); have hBm := belowMadeL hgrow; have HB3 := Lib.hid (belowVia hBm HBT.out); have c1 := keptBelow hBm c1; have HFX3 := Lib.hid (HFX.out.via hBm); have HNW3 := Lib.hid (HNW.out.via hBm); clear hown hgrow hBm)
  rw [HST.out] at HR ⊢
  have hall0 : List.replicate m 0 = allTo n (sysB s) 0 := by rw [HM'.out, ← rowOf_zero]; rfl
  rw [hall0] at HR
  clear hall0 HBT HFX HNW HB2 HB1 HCB
  go_loopw [25] (fun i wr => ∃ k : Nat, k ≤ n ∧ i = .int .i64 k ∧ (∃ mv rv rb, NewM wr T (T + 1) n (sysB s) k mv rv rb) ∧ FixM wr T gc c n (sysA s) ∧ NumB (T + 1) (rowL (allTo n (sysB s) k)) wr ∧ wr.cell? ⟨W.heap.size, 1, none⟩ = some (.slice a n ca) ∧ Below W.heap.size W wr) (fun i _ => n - (intOf i).toNat)
  case atStart => exact ⟨0, by omega, rfl, ⟨_, _, _, HNW3.out⟩, HFX3.out, HR.out, c1, HB3.out⟩
  case round =>
    clear HNW3 HFX3 HR c1 HB3
    obtain ⟨k, hk, rfl, ⟨mv, rv, rb, hnw⟩, hfx, hall, c1, hB⟩ := hrel
    have HNW := Lib.hid hnw
    have HFX := Lib.hid hfx
    have HALL := Lib.hid hall
    have HB := Lib.hid hB
    clear hnw hfx hall
    by_cases hlt : k < n
    · have hlt' : (k : Int) < n := by omega
      have hkm : (k : Int) < m := by omega
      have hkl : k < s.rows.length := by have := HN.out; omega
      obtain ⟨g, o, rfl, hr⟩ := HS.out.row hkl
      obtain ⟨ra, rc, e0, e1, e2, e3, e4⟩ := hr.ex
      have e0 := keptBelow hB e0
      have e1 := keptBelow hB e1
      have hvb := HV.out.val _ (getD_memR hkl)
      have hvs : sysB s k = (s.rows.getD k ([], 0)).2 := rfl
      obtain ⟨rl, hrl⟩ : ∃ rl, rl = (s.rows.getD k ([], 0)).1.length := ⟨_, rfl⟩
      rw [← hrl] at e0
      rw [← hvs] at e1 hvb
      obtain ⟨v, hvv⟩ : ∃ v, v = sysB s k := ⟨_, rfl⟩
      rw [← hvv] at e1 hvb
      have HVV := Lib.hid hvv
      clear hkl hr e2 e3 e4 hvs hrl hvv
      have hby := alloc_belowL wr (.cells #[.slice ra rl rc, .int .i64 v] 60)
      have gby := heap_alloc_new wr (.cells #[.slice ra rl rc, .int .i64 v] 60)
      have sby : (wr.alloc (.cells #[.slice ra rl rc, .int .i64 v] 60)).heap.size = wr.heap.size + 1 := by simp
      have d1 : (wr.alloc (.cells #[.slice ra rl rc, .int .i64 v] 60)).cell? ⟨wr.heap.size, 1, none⟩ = some (.int .i64 v) := (cell_of_row _ _ 1 _ _ _ gby).trans rfl
      have c1' := keptBelow hby c1
      have HNW2 := Lib.hid (HNW.out.via hby)
      have HFX2 := Lib.hid (HFX.out.via hby)
      have HALL2 := Lib.hid (HALL.out.via hby)
      have HB2 := Lib.hid (belowVia hby hB)
      have HRB : Hid (∀ i, i < k → T + 1 < rb i ∧ rb i < wr.heap.size) := Lib.hid (fun i hi => ⟨(HNW.out.rows i hi).2, (Array.getElem?_eq_some_iff.1 (HNW.out.rows i hi).1).1⟩)
      have HOM : Hid (∀ p, mv.ownBlock = some p → T + 1 < p ∧ p < wr.heap.size) := Lib.hid (fun p e => own_lt HNW.out.om p e)
      have HOR : Hid (∀ p, rv.ownBlock = some p → T + 1 < p ∧ p < wr.heap.size) := Lib.hid (fun p e => own_lt HNW.out.orr p e)
      have HD := Lib.hid (And.intro HNW.out.dm (And.intro HNW.out.dr HNW.out.dd))
      have HINJ := Lib.hid HNW.out.inj
      have HQ0 : Hid (T + 1 < wr.heap.size) := Lib.hid (Array.getElem?_eq_some_iff.1 HALL.out).1
      have HGT : Hid (gc < T) := Lib.hid hgcT
      clear hby gby hB HNW HFX HALL HB
      by_cases hv0 : v < 0
      · have hsg : sgV (sysB s) k = (-1) := by unfold sgV; rw [← HVV.out]; rw [if_pos hv0]
        have HW1 := Lib.hid (fun w => whole_num (-1) (by decide) (by decide) w)
        have HW2 := Lib.hid (fun w => whole_num ((-1) * v) (by omega) (by omega) w)
        obtain ⟨y, hy⟩ : ∃ y, y = (-1) * v := ⟨_, rfl⟩
        rw [← hy] at HW2
        have hw2 : IntKind.i64.wrap ((-1) * v) = y := by rw [hy, IntKind.wrap_i64]; omega
        have hw3 : IntKind.i64.wrap (-v) = y := by rw [hy, IntKind.wrap_i64]; omega
        have HHL := Lib.hid (helper_list (sysB s) (k := k) hlt)
        rw [hsg, ← HVV.out, ← hy] at HHL
        clear hsg hy
        go_upto_region 10 with fail
        generalize wr.alloc (.cells #[.slice ra rl rc, .int .i64 v] 60) = wb at *
        generalize wr.heap.size = q0 at *
        go_wp2_with (at_make; go_must (refine wpList_make_full _ rfl _ _ 77 rfl wb.heap.size 81 i0 (.agg zeroL.toArray) 10 Tryz.underlying77 HI0.out HZ0.out HZ1.out .i64 .i64 (m : Int) (m : Int) m rfl rfl rfl rfl (by rw [HZ2.out]; omega) (by unfold maxLen; omega) (Nat.le_refl _) ?_); intro wc hown hgrow; have hnh := num_made hown; have hBm := belowMadeL hgrow; clear hown hgrow; rw [sby] at hnh; rw [sby]; have hnh2 := hnh; rw [HM'.out] at hnh2; have HNH := Lib.hid hnh2; have hsz : q0 + 1 < wc.heap.size := (Array.getElem?_eq_some_iff.1 hnh).1; clear hnh hnh2)
        have d1 := keptBelow hBm d1
        have c1 := keptBelow hBm c1'
        have hnw := HNW2.out.via hBm
        have hfx := HFX2.out.via hBm
        have hall := HALL2.out.via hBm
        have hB := belowVia hBm HB2.out
        have nh := HNH.out
        have hkh : k < (List.replicate (n + 1) (0 : Int)).length := by rw [List.length_replicate]; omega
        have hnh : n < ((List.replicate (n + 1) (0 : Int)).set k (-1)).length := by rw [List.length_set, List.length_replicate]; omega
        have HST1 := Lib.hid (fun w h => (store_row (w := w) (g := q0 + 1) h hkh (-1)).2)
        have HST2 := Lib.hid (fun w h => (store_row (w := w) (g := q0 + 1) h hnh y).2)
        have hsz1 := sz_num (-1)
        have hsz2 := sz_num y
        have hl1 := numL_len (-1)
        have hl2 := numL_len y
        have ho1 := numL_one (-1)
        have ho2 := numL_one y
        clear hBm c1' HNW2 HFX2 HALL2 HB2 HNH e0 e1
        generalize numL (-1) = l1 at *
        generalize numL y = l2 at *
        generalize hL0 : List.replicate (n + 1) (0 : Int) = L0 at *
        go_upto_region 11 with fail
        refine wp_region_K (fun w' => w'.cell? ⟨q0, 1, none⟩ = some (.int .i64 v)) 14 (by kernel_rfl) ?_
        refine wpK_take (i := 0) (d := some 36) (v := ?_) rfl rfl (by kernel_rfl) (by kernel_rfl) (by kernel_rfl) (by kernel_rfl) (by kernel_rfl) rfl (fun _ _ _ h => h) (.inl ⟨by rfl, fun w hw => ?_⟩) d1 ?_
        rotate_left
        · clear hw; go_simp; with_reducible rfl
        try simp only [Act.put, List.setIfInBounds_toArray, List.set_cons_zero, List.set_cons_succ]
        refine wpK_take (i := 1) (d := some 37) (v := ?_) rfl rfl (by kernel_rfl) (by kernel_rfl) (by kernel_rfl) (by kernel_rfl) (by kernel_rfl) rfl (fun _ _ _ h => h) (.inl ⟨by rfl, fun w hw => ?_⟩) d1 ?_
        rotate_left
        · clear hw; go_simp; with_reducible rfl
        try simp only [Act.put, List.setIfInBounds_toArray, List.set_cons_zero, List.set_cons_succ]
        refine wpK_take (i := 2) (d := some 38) (v := ?_) rfl rfl (by kernel_rfl) (by kernel_rfl) (by kernel_rfl) (by kernel_rfl) (by kernel_rfl) rfl (fun _ _ _ h => h) (.inl ⟨by rfl, fun w hw => ?_⟩) d1 ?_
        rotate_left
        · clear hw; go_simp; with_reducible rfl
        try simp only [Act.put, List.setIfInBounds_toArray, List.set_cons_zero, List.set_cons_succ]
        refine wpK_take (i := 3) (d := some 39) (v := ?_) rfl rfl (by kernel_rfl) (by kernel_rfl) (by kernel_rfl) (by kernel_rfl) (by kernel_rfl) rfl (fun _ _ _ h => h) (.inl ⟨by rfl, fun w hw => ?_⟩) d1 ?_
        rotate_left
        · clear hw; go_simp; with_reducible rfl
        try simp only [Act.put, List.setIfInBounds_toArray, List.set_cons_zero, List.set_cons_succ]
        refine wpK_take (i := 4) (d := some 40) (v := ?_) rfl rfl (by kernel_rfl) (by kernel_rfl) (by kernel_rfl) (by kernel_rfl) (by kernel_rfl) rfl (fun _ _ _ h => h) (.inl ⟨by rfl, fun w hw => ?_⟩) d1 ?_
        rotate_left
        · clear hw; go_simp; with_reducible rfl
        try simp only [Act.put, List.setIfInBounds_toArray, List.set_cons_zero, List.set_cons_succ]
        refine wpK_take (i := 6) (d := some 42) (v := ?_) rfl rfl (by kernel_rfl) (by kernel_rfl) (by kernel_rfl) (by kernel_rfl) (by kernel_rfl) rfl (fun _ _ _ h => h) (.inl ⟨by rfl, fun w hw => ?_⟩) d1 ?_
        rotate_left
        · clear hw; go_simp; with_reducible rfl
        try simp only [Act.put, List.setIfInBounds_toArray, List.set_cons_zero, List.set_cons_succ]
        refine wpK_take (i := 7) (d := some 43) (v := ?_) rfl rfl (by kernel_rfl) (by kernel_rfl) (by kernel_rfl) (by kernel_rfl) (by kernel_rfl) rfl (fun _ _ _ h => h) (.inl ⟨by rfl, fun w hw => ?_⟩) d1 ?_
        rotate_left
        · clear hw; go_simp; with_reducible rfl
        try simp only [Act.put, List.setIfInBounds_toArray, List.set_cons_zero, List.set_cons_succ]
        refine wpK_take (i := 8) (d := some 44) (v := ?_) rfl rfl (by kernel_rfl) (by kernel_rfl) (by kernel_rfl) (by kernel_rfl) (by kernel_rfl) rfl (fun _ _ _ h => h) (.inl ⟨by rfl, fun w hw => ?_⟩) d1 ?_
        rotate_left
        · (skip); go_simp; with_reducible rfl
        try simp only [Act.put, List.setIfInBounds_toArray, List.set_cons_zero, List.set_cons_succ]
        refine wpK_take (i := 9) (d := some 45) (v := ?_) rfl rfl (by kernel_rfl) (by kernel_rfl) (by kernel_rfl) (by kernel_rfl) (by kernel_rfl) rfl (fun _ _ _ h => h) (.inl ⟨by rfl, fun w hw => ?_⟩) d1 ?_
        rotate_left
        · clear hw; go_simp; with_reducible rfl
        try simp only [Act.put, List.setIfInBounds_toArray, List.set_cons_zero, List.set_cons_succ]
        refine wpK_one (i := 5) (by kernel_rfl) rfl rfl ?_
        go_simp
        refine (HW1.out _).mono ?_
        rintro e w1 ⟨rfl, hBw1⟩
        have d1 := keptBelow hBw1 (keptBelow ((Below.refl _ _).drew) d1)
        have c1 := keptBelow hBw1 (keptBelow ((Below.refl _ _).drew) c1)
        have hB := belowVia hBw1 (belowVia ((Below.refl _ _).drew) hB)
        have hnw := (hnw.via ((Below.refl _ _).drew)).via hBw1
        have hfx := (hfx.via ((Below.refl _ _).drew)).via hBw1
        have hall := (hall.via ((Below.refl _ _).drew)).via hBw1
        have nh := (nh.via ((Below.refl _ _).drew)).via hBw1
        refine ⟨d1, ?_⟩
        try simp only [Act.put, List.setIfInBounds_toArray, List.set_cons_zero, List.set_cons_succ]
        refine wpK_one (i := 10) (by kernel_rfl) rfl rfl ?_
        go_simp
        refine (HW2.out _).mono ?_
        rintro e w2 ⟨rfl, hBw2⟩
        have d1 := keptBelow hBw2 d1
        have c1 := keptBelow hBw2 c1
        have hB := belowVia hBw2 hB
        have hnw := hnw.via hBw2
        have hfx := hfx.via hBw2
        have hall := hall.via hBw2
        have nh := nh.via hBw2
        refine ⟨d1, ?_⟩
        try simp only [Act.put, List.setIfInBounds_toArray, List.set_cons_zero, List.set_cons_succ]
        refine wpK_take (i := 11) (d := some 47) (v := ?_) rfl rfl (by kernel_rfl) (by kernel_rfl) (by kernel_rfl) (by kernel_rfl) (by kernel_rfl) rfl (fun _ _ _ h => h) (.inl ⟨by rfl, fun w hw => ?_⟩) d1 ?_
        rotate_left
        · clear hw; go_simp; with_reducible rfl
        try simp only [Act.put, List.setIfInBounds_toArray, List.set_cons_zero, List.set_cons_succ]
        refine wpK_setN (i := 12) (by kernel_rfl) rfl rfl rfl _ _ _ rfl (q0 + 1) (k * 10) l1 rfl rfl (by rw [hl1]; exact num_there_at nh hkh) hsz1 ho1 ?_
        have ho := only_setCells (q0 + 1) l1 w2 w2 (k * 10) (OnlyAt.refl _ _ (Array.getElem?_eq_some_iff.1 nh).1)
        have d1 := ho.cell (by omega) d1
        have nh2 := HST1.out _ nh
        refine ⟨(fun _ => d1), ?_⟩
        try simp only [Act.put, List.setIfInBounds_toArray, List.set_cons_zero, List.set_cons_succ]
        refine wpK_take (i := 13) (d := some 48) (v := ?_) rfl rfl (by kernel_rfl) (by kernel_rfl) (by kernel_rfl) (by kernel_rfl) (by kernel_rfl) rfl (fun _ _ _ h => h) (.inl ⟨by rfl, fun w hw => ?_⟩) d1 ?_
        rotate_left
        · clear hw; go_simp; with_reducible rfl
        try simp only [Act.put, List.setIfInBounds_toArray, List.set_cons_zero, List.set_cons_succ]
        refine wpK_store (i := 14) (by kernel_rfl) rfl rfl rfl (by kernel_rfl) (by kernel_rfl) _ _ _ rfl (q0 + 1) (n * 10) l2 rfl rfl (by rw [hl2]; exact num_there_at nh2 hnh) hsz2 ho2 ?_
        have ho := only_setCells (q0 + 1) l2 w2 _ (n * 10) ho
        have HNH : Hid (NumB (q0 + 1) (rowL (rowOf n (startR n (sysB s)) k)) ((w2.setCells (q0 + 1) (k * 10) l1).setCells (q0 + 1) (n * 10) l2)) := Lib.hid (by rw [← HHL.out]; exact HST2.out _ nh2)
        have HNW := Lib.hid (hnw.only ho (by have := HQ0.out; omega) (fun p e => by have := HOM.out p e; omega) (fun p e => by have := HOR.out p e; omega) (fun i hi => by have := HRB.out i hi; omega))
        have HFX := Lib.hid (hfx.only ho (by have := HQ0.out; omega) HGT.out)
        have HALL := Lib.hid (ho.num hall (by have := HQ0.out; omega))
        have HC1 := Lib.hid (ho.cell (by have := HQ0.out; have := HWT.out; omega) c1)
        have HB := Lib.hid (ho.below hB (by have := HQ0.out; have := HWT.out; omega))
        clear ho hnw hfx hall c1 hB nh nh2 HST1 HST2 hsz1 hsz2 hl1 hl2 ho1 ho2 d1 HW1 HW2 hkh hnh hBw1 hBw2 hL0 hw2 hw3 hsz
        generalize (w2.setCells (q0 + 1) (k * 10) l1).setCells (q0 + 1) (n * 10) l2 = w9 at *
        go_wp2_with fail
        go_loopw [51] (fun ix wx => ∃ i : Nat, i ≤ m ∧ ix = .int .i64 i ∧ NumB (T + 1) (rowL (midA n (sysB s) k i)) wx ∧ NumB (q0 + 1) (rowL (rowOf n (startR n (sysB s)) k)) wx ∧ NewM wx T (T + 1) n (sysB s) k mv rv rb ∧ FixM wx T gc c n (sysA s) ∧ wx.cell? ⟨W.heap.size, 1, none⟩ = some (.slice (some ⟨g, o, none⟩) n ca) ∧ Below W.heap.size W wx) (fun ix _ => m - (intOf ix).toNat)
        case atStart => exact ⟨0, by omega, rfl, by rw [midA_zero]; exact HALL.out, HNH.out, HNW.out, HFX.out, HC1.out, HB.out⟩
        case round =>
          clear HALL HNH HNW HFX HC1 HB
          obtain ⟨i, hi, rfl, hmid, nh, hnw, hfx, c1, hB⟩ := hrel
          by_cases hit : i < m
          · have hit' : (i : Int) < m := by omega
            have hin : i ≤ n := by have := HM'.out; omega
            have hil : i < (midA n (sysB s) k i).length := by rw [midA_len]; omega
            have hyy : ∀ j, j < 10 → wr.cell? ⟨q0 + 1, i * 10 + j, none⟩ = some (.int .u64 (wd (rowH n (sysB s) k i) j)) := fun j hj => by
              have := nh.cell (rowL_get (l := rowOf n (startR n (sysB s)) k) (i := i) (by rw [rowOf_len]; omega) hj)
              rw [rowOf_get _ _ hin] at this
              unfold startR at this
              rw [if_neg (by omega)] at this
              exact this
            have HAD := Lib.hid (fun w hz hy => add_row (l := midA n (sysB s) k i) (i := i) (p := T + 1) (g := q0 + 1) (o := i * 10) (y := rowH n (sysB s) k i) w hz hil hy (by have := HQ0.out; omega))
            rw [midA_set (sysB s) k hin] at HAD
            clear hin hil
            go_upto_region 15 with fail
            refine wp_region_K (fun _ => True) 6 (by kernel_rfl) ?_
            refine wpK_takeP (i := 0) (d := some 54) (v := ?_) rfl (by kernel_rfl) (by kernel_rfl) (by kernel_rfl) (by kernel_rfl) rfl (fun _ _ _ h => h) (.inl ⟨by rfl, fun w hw => ?_⟩) (fun h => trivial) ?_
            rotate_left
            · clear hw; go_simp; with_reducible rfl
            try simp only [Act.put, List.setIfInBounds_toArray, List.set_cons_zero, List.set_cons_succ]
            refine wpK_takeP (i := 1) (d := some 55) (v := ?_) rfl (by kernel_rfl) (by kernel_rfl) (by kernel_rfl) (by kernel_rfl) rfl (fun _ _ _ h => h) (.inl ⟨by rfl, fun w hw => ?_⟩) (fun h => trivial) ?_
            rotate_left
            · clear hw; go_simp; with_reducible rfl
            try simp only [Act.put, List.setIfInBounds_toArray, List.set_cons_zero, List.set_cons_succ]
            refine wpK_take (i := 2) (d := some 56) (v := ?_) rfl rfl (by kernel_rfl) (by kernel_rfl) (by kernel_rfl) (by kernel_rfl) (by kernel_rfl) rfl (fun _ _ _ h => h) (.inl ⟨by rfl, fun w hw => ?_⟩) trivial ?_
            rotate_left
            · clear hw; go_simp; with_reducible rfl
            try simp only [Act.put, List.setIfInBounds_toArray, List.set_cons_zero, List.set_cons_succ]
            refine wpK_takeP (i := 3) (d := some 57) (v := ?_) rfl (by kernel_rfl) (by kernel_rfl) (by kernel_rfl) (by kernel_rfl) rfl (fun _ _ _ h => h) (.inl ⟨by rfl, fun w hw => ?_⟩) (fun h => trivial) ?_
            rotate_left
            · clear hw; go_simp; with_reducible rfl
            try simp only [Act.put, List.setIfInBounds_toArray, List.set_cons_zero, List.set_cons_succ]
            refine wpK_takeP (i := 4) (d := some 58) (v := ?_) rfl (by kernel_rfl) (by kernel_rfl) (by kernel_rfl) (by kernel_rfl) rfl (fun _ _ _ h => h) (.inl ⟨by rfl, fun w hw => ?_⟩) (fun h => trivial) ?_
            rotate_left
            · clear hw; go_simp; with_reducible rfl
            try simp only [Act.put, List.setIfInBounds_toArray, List.set_cons_zero, List.set_cons_succ]
            refine wpK_take (i := 5) (d := some 59) (v := ?_) rfl rfl (by kernel_rfl) (by kernel_rfl) (by kernel_rfl) (by kernel_rfl) (by kernel_rfl) rfl (fun _ _ _ h => h) (.inl ⟨by rfl, fun w hw => ?_⟩) trivial ?_
            rotate_left
            · clear hw; go_simp; with_reducible rfl
            try simp only [Act.put, List.setIfInBounds_toArray, List.set_cons_zero, List.set_cons_succ]
            refine wpK_one (i := 6) (by kernel_rfl) rfl rfl ?_
            go_simp
            refine (HAD.out _ ?_ ?_).mono ?_
            exact hmid
            exact hyy
            rintro e w3 ⟨rfl, hmid2, ho⟩
            try simp only [Act.put, List.setIfInBounds_toArray, List.set_cons_zero, List.set_cons_succ]
            refine wpK_done (by kernel_rfl) ?_ _
            have HMID := Lib.hid hmid2
            have HNH := Lib.hid (ho.num (nh.via (Below.refl _ _).drew) (by have := HQ0.out; omega))
            have HNW := Lib.hid ((hnw.via (Below.refl _ _).drew).only ho (by omega) (fun p e => by have := HOM.out p e; omega) (fun p e => by have := HOR.out p e; omega) (fun i hi => by have := HRB.out i hi; omega))
            have HFX := Lib.hid ((hfx.via (Below.refl _ _).drew).only ho (by omega) HGT.out)
            have HC1 := Lib.hid (ho.cell (by have := HWT.out; omega) (keptBelow (Below.refl wr.heap.size wr).drew c1))
            have HB := Lib.hid (ho.below hB.drew (by have := HWT.out; omega))
            clear hmid2 ho nh hnw hfx c1 hB hmid hyy HAD
            go_wp2_with fail
            go_roundw
            case rel => exact ⟨i + 1, by omega, by go_num, HMID.out, HNH.out, HNW.out, HFX.out, HC1.out, HB.out⟩
            case measure => simp [intOf]; omega
          · obtain rfl : m = i := by omega
            rw [HM'.out, midA_all] at hmid
            have hdr := (Below.refl wr.heap.size wr).drew
            have t1 := keptBelow hdr hnw.c1
            have t2 := keptBelow hdr hnw.c2
            have om := owns_below hnw.om hdr
            have orr := owns_below hnw.orr hdr
            have hrows := fun i hi => (hnw.rows i hi).1.via hdr
            have hfx := hfx.via hdr
            have hall := hmid.via hdr
            have nh := nh.via hdr
            have c1 := keptBelow hdr c1
            have hB := hB.drew
            obtain ⟨S0, hS0⟩ : ∃ S0, S0 = wr.drew.heap.size := ⟨_, rfl⟩
            have hqS : q0 + 1 < S0 := by rw [hS0]; exact (Array.getElem?_eq_some_iff.1 nh).1
            obtain ⟨y71, hy71⟩ : ∃ y71, y71 = (k : Int) - n := ⟨_, rfl⟩
            have hwk : IntKind.i64.wrap ((k : Int) - n) = y71 := by rw [hy71, IntKind.wrap_i64]; omega
            have HY71 := Lib.hid hy71
            have hq1 := HQ0.out
            clear hdr hnw hmid hy71 hit hi
            go_wp2_with fail
            go_upto_region 17 with fail
            refine wp_region_K (fun w' => w'.cell? ⟨T, 1, none⟩ = some mv ∧ w'.cell? ⟨T, 2, none⟩ = some rv) 20 (by kernel_rfl) ?_
            generalize wr.drew = wd at *
            refine wpK_take (i := 0) (d := some 62) (v := ?_) rfl rfl (by kernel_rfl) (by kernel_rfl) (by kernel_rfl) (by kernel_rfl) (by kernel_rfl) rfl (fun _ _ _ h => h) (.inl ⟨by rfl, fun w hw => ?_⟩) ⟨t1, t2⟩ ?_
            rotate_left
            · clear hw; go_simp; with_reducible rfl
            try simp only [Act.put, List.setIfInBounds_toArray, List.set_cons_zero, List.set_cons_succ]
            refine wpK_takeP (i := 1) (d := some 63) (v := ?_) rfl (by kernel_rfl) (by kernel_rfl) (by kernel_rfl) (by kernel_rfl) rfl (fun _ _ _ h => h) (.inl ⟨by rfl, fun w hw => ?_⟩) (fun h => ⟨t1, t2⟩) ?_
            rotate_left
            · clear hw; go_simp; with_reducible rfl
            try simp only [Act.put, List.setIfInBounds_toArray, List.set_cons_zero, List.set_cons_succ]
            refine wpK_take (i := 2) (d := some 64) (v := ?_) rfl rfl (by kernel_rfl) (by kernel_rfl) (by kernel_rfl) (by kernel_rfl) (by kernel_rfl) rfl (fun _ _ _ h => h) (.inl ⟨by rfl, fun w hw => ?_⟩) ⟨t1, t2⟩ ?_
            rotate_left
            · clear hw; go_simp; with_reducible rfl
            try simp only [Act.put, List.setIfInBounds_toArray, List.set_cons_zero, List.set_cons_succ]
            refine wpK_take (i := 3) (d := some 65) (v := ?_) rfl rfl (by kernel_rfl) (by kernel_rfl) (by kernel_rfl) (by kernel_rfl) (by kernel_rfl) rfl (fun _ _ _ h => h) (.inl ⟨by rfl, fun w hw => ?_⟩) ⟨t1, t2⟩ ?_
            rotate_left
            · clear hw; go_simp; with_reducible rfl
            try simp only [Act.put, List.setIfInBounds_toArray, List.set_cons_zero, List.set_cons_succ]
            refine wpK_take (i := 4) (d := some 66) (v := ?_) rfl rfl (by kernel_rfl) (by kernel_rfl) (by kernel_rfl) (by kernel_rfl) (by kernel_rfl) rfl (fun _ _ _ h => h) (.inl ⟨by rfl, fun w hw => ?_⟩) ⟨t1, t2⟩ ?_
            rotate_left
            · clear hw; go_simp; with_reducible rfl
            try simp only [Act.put, List.setIfInBounds_toArray, List.set_cons_zero, List.set_cons_succ]
            refine wpK_take (i := 5) (d := some 67) (v := ?_) rfl rfl (by kernel_rfl) (by kernel_rfl) (by kernel_rfl) (by kernel_rfl) (by kernel_rfl) rfl (fun _ _ _ h => h) (.inl ⟨by rfl, fun w hw => ?_⟩) ⟨t1, t2⟩ ?_
            rotate_left
            · (obtain ⟨_, _⟩ := hw); go_simp; with_reducible rfl
            try simp only [Act.put, List.setIfInBounds_toArray, List.set_cons_zero, List.set_cons_succ]
            refine wpK_take (i := 6) (d := some 68) (v := ?_) rfl rfl (by kernel_rfl) (by kernel_rfl) (by kernel_rfl) (by kernel_rfl) (by kernel_rfl) rfl (fun _ _ _ h => h) (.inl ⟨by rfl, fun w hw => ?_⟩) ⟨t1, t2⟩ ?_
            rotate_left
            · clear hw; go_simp; with_reducible rfl
            try simp only [Act.put, List.setIfInBounds_toArray, List.set_cons_zero, List.set_cons_succ]
            refine wpK_take (i := 7) (d := some 69) (v := ?_) rfl rfl (by kernel_rfl) (by kernel_rfl) (by kernel_rfl) (by kernel_rfl) (by kernel_rfl) rfl (fun _ _ _ h => h) (.inl ⟨by rfl, fun w hw => ?_⟩) ⟨t1, t2⟩ ?_
            rotate_left
            · clear hw; go_simp; with_reducible rfl
            try simp only [Act.put, List.setIfInBounds_toArray, List.set_cons_zero, List.set_cons_succ]
            refine wpK_take (i := 8) (d := some 70) (v := ?_) rfl rfl (by kernel_rfl) (by kernel_rfl) (by kernel_rfl) (by kernel_rfl) (by kernel_rfl) rfl (fun _ _ _ h => h) (.inl ⟨by rfl, fun w hw => ?_⟩) ⟨t1, t2⟩ ?_
            rotate_left
            · clear hw; go_simp; with_reducible rfl
            try simp only [Act.put, List.setIfInBounds_toArray, List.set_cons_zero, List.set_cons_succ]
            refine wpK_takeP (i := 11) (d := some 73) (v := ?_) rfl (by kernel_rfl) (by kernel_rfl) (by kernel_rfl) (by kernel_rfl) rfl (fun _ _ _ h => h) (.inl ⟨by rfl, fun w hw => ?_⟩) (fun h => ⟨t1, t2⟩) ?_
            rotate_left
            · clear hw; go_simp; with_reducible rfl
            try simp only [Act.put, List.setIfInBounds_toArray, List.set_cons_zero, List.set_cons_succ]
            refine wpK_takeP (i := 12) (d := some 74) (v := ?_) rfl (by kernel_rfl) (by kernel_rfl) (by kernel_rfl) (by kernel_rfl) rfl (fun _ _ _ h => h) (.inl ⟨by rfl, fun w hw => ?_⟩) (fun h => ⟨t1, t2⟩) ?_
            rotate_left
            · clear hw; go_simp; with_reducible rfl
            try simp only [Act.put, List.setIfInBounds_toArray, List.set_cons_zero, List.set_cons_succ]
            refine wpK_takeP (i := 13) (d := some 75) (v := ?_) rfl (by kernel_rfl) (by kernel_rfl) (by kernel_rfl) (by kernel_rfl) rfl (fun _ _ _ h => h) (.inl ⟨by rfl, fun w hw => ?_⟩) (fun h => ⟨t1, t2⟩) ?_
            rotate_left
            · clear hw; go_simp; with_reducible rfl
            try simp only [Act.put, List.setIfInBounds_toArray, List.set_cons_zero, List.set_cons_succ]
            refine wpK_take (i := 14) (d := some 76) (v := ?_) rfl rfl (by kernel_rfl) (by kernel_rfl) (by kernel_rfl) (by kernel_rfl) (by kernel_rfl) rfl (fun _ _ _ h => h) (.inl ⟨by rfl, fun w hw => ?_⟩) ⟨t1, t2⟩ ?_
            rotate_left
            · (obtain ⟨_, _⟩ := hw); go_simp; with_reducible rfl
            try simp only [Act.put, List.setIfInBounds_toArray, List.set_cons_zero, List.set_cons_succ]
            refine wpK_takeP (i := 15) (d := some 77) (v := ?_) rfl (by kernel_rfl) (by kernel_rfl) (by kernel_rfl) (by kernel_rfl) rfl (fun _ _ _ h => h) (.inl ⟨by rfl, fun w hw => ?_⟩) (fun h => ⟨t1, t2⟩) ?_
            rotate_left
            · clear hw; go_simp; with_reducible rfl
            try simp only [Act.put, List.setIfInBounds_toArray, List.set_cons_zero, List.set_cons_succ]
            refine wpK_two (i := 9) (j := 16) (by kernel_rfl) ?_ ?_
            · refine wpOp_one (i := 9) rfl rfl ?_
              go_simp
              have hBx := alloc_belowL wd (.cells #[.int .i64 y71] 3)
              have t1 := keptBelow hBx t1
              have t2 := keptBelow hBx t2
              have om := owns_below om hBx
              have orr := owns_below orr hBx
              have hrows := fun i hi => (hrows i hi).via hBx
              have hfx := hfx.via hBx
              have hall := hall.via hBx
              have nh := nh.via hBx
              have c1 := keptBelow hBx c1
              have hB := belowVia hBx hB
              have hsx := hBx.size
              have hsy : wd.heap.size < (wd.alloc (.cells #[.int .i64 y71] 3)).heap.size := by have := alloc_sizeL wd (.cells #[.int .i64 y71] 3); omega
              have n71 : (wd.alloc (.cells #[.int .i64 y71] 3)).cell? ⟨wd.heap.size, 0, none⟩ = some (.int .i64 y71) := (cell_of_row _ _ 0 _ _ _ (heap_alloc_new wd (.cells #[.int .i64 y71] 3))).trans rfl
              have hp71b : S0 ≤ wd.heap.size := by omega
              generalize hp71 : wd.heap.size = p71 at *
              generalize wd.alloc (.cells #[.int .i64 y71] 3) = wa at *
              clear hBx
              refine ⟨⟨t1, t2⟩, ?_⟩
              try simp only [Act.put, List.setIfInBounds_toArray, List.set_cons_zero, List.set_cons_succ]
              refine wpK_two (i := 10) (j := 16) (by kernel_rfl) ?_ ?_
              · have hsz72 : S0 ≤ wa.heap.size := by omega
                refine wpOp_append (i := 10) (dt := 72) rfl rfl rfl _ _ _ rfl (T + 1 + 1) 3 j0 (.int .i64 0) 1 8 Tryz.underlying22 HJ0.out HY0.out HY1.out HY2.out rfl (by decide) mv k (intsV ((List.range k).map (startM n))) rfl om ⟨p71, 0, none⟩ 1 1 [.int .i64 y71] rfl rfl (news_of_cell n71) (one_intC _) (by decide) (by unfold maxLen; omega) (by omega) (by omega) ?_
                intro gm cm wb om2 hgr hat72 hlt72
                have t1 := kept_own hgr t1 (fun p e => by have := HOM.out p e; omega)
                have t2 := kept_own hgr t2 (fun p e => by have := HOM.out p e; omega)
                have hrows := fun i hi => kept_num hgr (hrows i hi) (fun p e => HD.out.1 i hi p e)
                have hfx := hfx.grown hgr (fun p e => by have := HOM.out p e; omega) HGT.out
                have hall := kept_num hgr hall (fun p e => by have := HOM.out p e; omega)
                have nh := kept_num hgr nh (fun p e => by have := HOM.out p e; omega)
                have c1 := kept_own hgr c1 (fun p e => by have := HOM.out p e; have := HWT.out; omega)
                have hB := hB.grown hgr hB.size (fun p e => by have := HOM.out p e; have := HWT.out; omega)
                have hsx := hgr.size
                have orr := owns_grown orr hgr (fun g g' e1 e2 => fun e => HD.out.2.2 g' g e2 e1 e.symm)
                generalize hh72 : wa.heap.size = h72 at *
                clear hgr om
                refine ⟨(fun _ => ⟨t1, t2⟩), ?_⟩
                try simp only [Act.put, List.setIfInBounds_toArray, List.set_cons_zero, List.set_cons_succ]
                refine wpK_one (i := 16) (by kernel_rfl) rfl rfl ?_
                go_simp
                have hBx := alloc_belowL wb (.cells #[.slice (some ⟨q0 + 1, 0, none⟩) m m] 77)
                have t1 := keptBelow hBx t1
                have t2 := keptBelow hBx t2
                have om2 := owns_below om2 hBx
                have orr := owns_below orr hBx
                have hrows := fun i hi => (hrows i hi).via hBx
                have hfx := hfx.via hBx
                have hall := hall.via hBx
                have nh := nh.via hBx
                have c1 := keptBelow hBx c1
                have hB := belowVia hBx hB
                have hsx := hBx.size
                have hsy : wb.heap.size < (wb.alloc (.cells #[.slice (some ⟨q0 + 1, 0, none⟩) m m] 77)).heap.size := by have := alloc_sizeL wb (.cells #[.slice (some ⟨q0 + 1, 0, none⟩) m m] 77); omega
                have n78 : (wb.alloc (.cells #[.slice (some ⟨q0 + 1, 0, none⟩) m m] 77)).cell? ⟨wb.heap.size, 0, none⟩ = some (.slice (some ⟨q0 + 1, 0, none⟩) m m) := (cell_of_row _ _ 0 _ _ _ (heap_alloc_new wb (.cells #[.slice (some ⟨q0 + 1, 0, none⟩) m m] 77))).trans rfl
                have hp78b : S0 ≤ wb.heap.size := by omega
                generalize hp78 : wb.heap.size = p78 at *
                generalize wb.alloc (.cells #[.slice (some ⟨q0 + 1, 0, none⟩) m m] 77) = wc at *
                clear hBx
                refine ⟨⟨t1, t2⟩, ?_⟩
                try simp only [Act.put, List.setIfInBounds_toArray, List.set_cons_zero, List.set_cons_succ]
                have hsz79 : gm < wc.heap.size := by omega
                have hsz79b : S0 ≤ wc.heap.size := by omega
                refine wpK_append (i := 17) (dt := 79) (by kernel_rfl) rfl rfl rfl _ _ _ rfl (T + 1 + 1) 77 l0 (.slice none 0 0) 1 24 Tryz.underlying101 HL0.out HX0.out HX1.out HX2.out rfl (by decide) rv k ((List.range k).map (rowV n rb)) rfl orr ⟨p78, 0, none⟩ 1 1 [.slice (some ⟨q0 + 1, 0, none⟩) m m] rfl rfl (news_of_cell n78) (one_slc _ _ _) (by decide) (by unfold maxLen; omega) (by omega) (by omega) ?_
                intro gr cr we orr2 hgr hat79 hlt79
                have t1 := kept_own hgr t1 (fun p e => by have := HOR.out p e; omega)
                have t2 := kept_own hgr t2 (fun p e => by have := HOR.out p e; omega)
                have hrows := fun i hi => kept_num hgr (hrows i hi) (fun p e => HD.out.2.1 i hi p e)
                have hfx := hfx.grown hgr (fun p e => by have := HOR.out p e; omega) HGT.out
                have hall := kept_num hgr hall (fun p e => by have := HOR.out p e; omega)
                have nh := kept_num hgr nh (fun p e => by have := HOR.out p e; omega)
                have c1 := kept_own hgr c1 (fun p e => by have := HOR.out p e; have := HWT.out; omega)
                have hB := hB.grown hgr hB.size (fun p e => by have := HOR.out p e; have := HWT.out; omega)
                have hsx := hgr.size
                have om2 := owns_grown om2 hgr (fun g g' e1 e2 => by have e1 : some gm = some g := e1; cases e1; have h2 := HOR.out g' e2; rcases hat72 with e3 | e3; exact HD.out.2.2 gm g' e3 e2; omega)
                generalize hh79 : wc.heap.size = h79 at *
                clear hgr orr
                refine ⟨(fun _ => ⟨t1, t2⟩), ?_⟩
                try simp only [Act.put, List.setIfInBounds_toArray, List.set_cons_zero, List.set_cons_succ]
                refine wpK_takeP (i := 18) (d := some 80) (v := ?_) rfl (by kernel_rfl) (by kernel_rfl) (by kernel_rfl) (by kernel_rfl) rfl (fun _ _ _ h => h) (.inl ⟨by rfl, fun w hw => ?_⟩) (fun h => ⟨t1, t2⟩) ?_
                rotate_left
                · clear hw; go_simp; with_reducible rfl
                try simp only [Act.put, List.setIfInBounds_toArray, List.set_cons_zero, List.set_cons_succ]
                refine wpK_take (i := 19) (d := some 81) (v := ?_) rfl rfl (by kernel_rfl) (by kernel_rfl) (by kernel_rfl) (by kernel_rfl) (by kernel_rfl) rfl (fun _ _ _ h => h) (.inl ⟨by rfl, fun w hw => ?_⟩) ⟨t1, t2⟩ ?_
                rotate_left
                · clear hw; go_simp; with_reducible rfl
                try simp only [Act.put, List.setIfInBounds_toArray, List.set_cons_zero, List.set_cons_succ]
                refine wpK_set (i := 20) (by kernel_rfl) rfl rfl rfl _ _ _ rfl T 1 (.slice (some ⟨gm, 0, none⟩) (k + 1) cm) rfl rfl rfl (by rw [t1]; rfl) (hfx.fz 1) (by kernel_rfl) rfl ?_
                refine ⟨(fun h => absurd h (by intro h; have h : true = false := h; cases h)), ?_⟩
                try simp only [Act.put, List.setIfInBounds_toArray, List.set_cons_zero, List.set_cons_succ]
                refine wpK_takeP (i := 21) (d := some 82) (v := ?_) rfl (by kernel_rfl) (by kernel_rfl) (by kernel_rfl) (by kernel_rfl) rfl (fun _ _ _ h => h) (.inl ⟨by rfl, fun w hw => ?_⟩) (fun h => absurd h (by intro h; have h : true = false := h; cases h)) ?_
                rotate_left
                · clear hw; go_simp; with_reducible rfl
                try simp only [Act.put, List.setIfInBounds_toArray, List.set_cons_zero, List.set_cons_succ]
                refine wpK_takeP (i := 22) (d := some 83) (v := ?_) rfl (by kernel_rfl) (by kernel_rfl) (by kernel_rfl) (by kernel_rfl) rfl (fun _ _ _ h => h) (.inl ⟨by rfl, fun w hw => ?_⟩) (fun h => absurd h (by intro h; have h : true = false := h; cases h)) ?_
                rotate_left
                · clear hw; go_simp; with_reducible rfl
                try simp only [Act.put, List.setIfInBounds_toArray, List.set_cons_zero, List.set_cons_succ]
                have t2x : (we.setCell ⟨T, 1, none⟩ (.slice (some ⟨gm, 0, none⟩) (k + 1) cm)).cell? ⟨T, 2, none⟩ = some rv := (World.cell?_setCell_other _ _ _ _ (by intro e; have := congrArg Addr.off e; dsimp only at this; omega)).trans t2
                refine wpK_store1 (i := 23) (by kernel_rfl) rfl rfl rfl (by kernel_rfl) (by kernel_rfl) _ _ _ rfl T 2 (.slice (some ⟨gr, 0, none⟩) (k + 1) cr) rfl rfl rfl (by rw [t2x]; rfl) (by rw [World.frozen?_setCell]; exact hfx.fz 2) (by kernel_rfl) rfl ?_
                have hdist := new_dist (gm := gm) (gr := gr) HD.out HOM.out HOR.out HRB.out hat72 hat79 (by omega) (by omega) (by omega) (by omega) (by omega)
                have HNEW := Lib.hid (new_next (w := we) (gm := gm) (gr := gr) (mv' := .slice (some ⟨gm, 0, none⟩) (k + 1) cm) (rv' := .slice (some ⟨gr, 0, none⟩) (k + 1) cr) t1 t2 (by rw [HY71.out] at om2; exact om2) (by rw [HM'.out] at orr2; exact orr2) hrows HRB.out nh (by omega) (by omega) HINJ.out rfl rfl hdist (by have := own_lt om2 gm rfl; omega) (by have := own_lt orr2 gr rfl; omega))
                have HFXN := Lib.hid ((hfx.set (v := .slice (some ⟨gm, 0, none⟩) (k + 1) cm) (.inl rfl) HGT.out).set (v := .slice (some ⟨gr, 0, none⟩) (k + 1) cr) (.inr rfl) HGT.out)
                have HALLN : Hid (NumB (T + 1) (rowL (allTo n (sysB s) (k + 1))) ((we.setCell ⟨T, 1, none⟩ (.slice (some ⟨gm, 0, none⟩) (k + 1) cm)).setCell ⟨T, 2, none⟩ (.slice (some ⟨gr, 0, none⟩) (k + 1) cr))) := Lib.hid ((hall.other (by omega)).other (by omega))
                have HC1N := Lib.hid ((World.cell?_setCell_other (we.setCell ⟨T, 1, none⟩ (.slice (some ⟨gm, 0, none⟩) (k + 1) cm)) ⟨T, 2, none⟩ ⟨W.heap.size, 1, none⟩ (.slice (some ⟨gr, 0, none⟩) (k + 1) cr) (by intro e; have := congrArg Addr.block e; dsimp only at this; have := HWT.out; omega)).trans ((World.cell?_setCell_other we ⟨T, 1, none⟩ ⟨W.heap.size, 1, none⟩ (.slice (some ⟨gm, 0, none⟩) (k + 1) cm) (by intro e; have := congrArg Addr.block e; dsimp only at this; have := HWT.out; omega)).trans c1))
                have HBN := Lib.hid ((hB.setCell (p := ⟨T, 1, none⟩) (Nat.le_of_lt HWT.out) (.slice (some ⟨gm, 0, none⟩) (k + 1) cm)).setCell (p := ⟨T, 2, none⟩) (Nat.le_of_lt HWT.out) (.slice (some ⟨gr, 0, none⟩) (k + 1) cr))
                generalize (we.setCell ⟨T, 1, none⟩ (.slice (some ⟨gm, 0, none⟩) (k + 1) cm)).setCell ⟨T, 2, none⟩ (.slice (some ⟨gr, 0, none⟩) (k + 1) cr) = wz at *
                clear t1 t2 t2x hfx hall nh c1 hB hrows om2 orr2 hdist n78
                go_wp2_with fail
                go_roundw
                case rel => exact ⟨k + 1, by omega, by go_num, ⟨_, _, _, HNEW.out⟩, HFXN.out, HALLN.out, HC1N.out, HBN.out⟩
                case measure => simp [intOf]; omega
              · refine wpOp_one (i := 16) rfl rfl ?_
                go_simp
                have hBx := alloc_belowL wa (.cells #[.slice (some ⟨q0 + 1, 0, none⟩) m m] 77)
                have t1 := keptBelow hBx t1
                have t2 := keptBelow hBx t2
                have om := owns_below om hBx
                have orr := owns_below orr hBx
                have hrows := fun i hi => (hrows i hi).via hBx
                have hfx := hfx.via hBx
                have hall := hall.via hBx
                have nh := nh.via hBx
                have c1 := keptBelow hBx c1
                have hB := belowVia hBx hB
                have hsx := hBx.size
                have hsy : wa.heap.size < (wa.alloc (.cells #[.slice (some ⟨q0 + 1, 0, none⟩) m m] 77)).heap.size := by have := alloc_sizeL wa (.cells #[.slice (some ⟨q0 + 1, 0, none⟩) m m] 77); omega
                have n78 : (wa.alloc (.cells #[.slice (some ⟨q0 + 1, 0, none⟩) m m] 77)).cell? ⟨wa.heap.size, 0, none⟩ = some (.slice (some ⟨q0 + 1, 0, none⟩) m m) := (cell_of_row _ _ 0 _ _ _ (heap_alloc_new wa (.cells #[.slice (some ⟨q0 + 1, 0, none⟩) m m] 77))).trans rfl
                have n71 := keptBelow hBx n71
                have hp78b : S0 ≤ wa.heap.size := by omega
                generalize hp78 : wa.heap.size = p78 at *
                generalize wa.alloc (.cells #[.slice (some ⟨q0 + 1, 0, none⟩) m m] 77) = wb at *
                clear hBx
                refine ⟨⟨t1, t2⟩, ?_⟩
                try simp only [Act.put, List.setIfInBounds_toArray, List.set_cons_zero, List.set_cons_succ]
                have hsz72 : S0 ≤ wb.heap.size := by omega
                refine wpK_append (i := 10) (dt := 72) (by kernel_rfl) rfl rfl rfl _ _ _ rfl (T + 1 + 1) 3 j0 (.int .i64 0) 1 8 Tryz.underlying22 HJ0.out HY0.out HY1.out HY2.out rfl (by decide) mv k (intsV ((List.range k).map (startM n))) rfl om ⟨p71, 0, none⟩ 1 1 [.int .i64 y71] rfl rfl (news_of_cell n71) (one_intC _) (by decide) (by unfold maxLen; omega) (by omega) (by omega) ?_
                intro gm cm wc om2 hgr hat72 hlt72
                have t1 := kept_own hgr t1 (fun p e => by have := HOM.out p e; omega)
                have t2 := kept_own hgr t2 (fun p e => by have := HOM.out p e; omega)
                have hrows := fun i hi => kept_num hgr (hrows i hi) (fun p e => HD.out.1 i hi p e)
                have hfx := hfx.grown hgr (fun p e => by have := HOM.out p e; omega) HGT.out
                have hall := kept_num hgr hall (fun p e => by have := HOM.out p e; omega)
                have nh := kept_num hgr nh (fun p e => by have := HOM.out p e; omega)
                have c1 := kept_own hgr c1 (fun p e => by have := HOM.out p e; have := HWT.out; omega)
                have hB := hB.grown hgr hB.size (fun p e => by have := HOM.out p e; have := HWT.out; omega)
                have hsx := hgr.size
                have orr := owns_grown orr hgr (fun g g' e1 e2 => fun e => HD.out.2.2 g' g e2 e1 e.symm)
                have n78 := kept_own hgr n78 (fun p e => by have := HOM.out p e; omega)
                generalize hh72 : wb.heap.size = h72 at *
                clear hgr om
                refine ⟨(fun _ => ⟨t1, t2⟩), ?_⟩
                try simp only [Act.put, List.setIfInBounds_toArray, List.set_cons_zero, List.set_cons_succ]
                have hsz79 : gm < wc.heap.size := by omega
                have hsz79b : S0 ≤ wc.heap.size := by omega
                refine wpK_append (i := 17) (dt := 79) (by kernel_rfl) rfl rfl rfl _ _ _ rfl (T + 1 + 1) 77 l0 (.slice none 0 0) 1 24 Tryz.underlying101 HL0.out HX0.out HX1.out HX2.out rfl (by decide) rv k ((List.range k).map (rowV n rb)) rfl orr ⟨p78, 0, none⟩ 1 1 [.slice (some ⟨q0 + 1, 0, none⟩) m m] rfl rfl (news_of_cell n78) (one_slc _ _ _) (by decide) (by unfold maxLen; omega) (by omega) (by omega) ?_
                intro gr cr we orr2 hgr hat79 hlt79
                have t1 := kept_own hgr t1 (fun p e => by have := HOR.out p e; omega)
                have t2 := kept_own hgr t2 (fun p e => by have := HOR.out p e; omega)
                have hrows := fun i hi => kept_num hgr (hrows i hi) (fun p e => HD.out.2.1 i hi p e)
                have hfx := hfx.grown hgr (fun p e => by have := HOR.out p e; omega) HGT.out
                have hall := kept_num hgr hall (fun p e => by have := HOR.out p e; omega)
                have nh := kept_num hgr nh (fun p e => by have := HOR.out p e; omega)
                have c1 := kept_own hgr c1 (fun p e => by have := HOR.out p e; have := HWT.out; omega)
                have hB := hB.grown hgr hB.size (fun p e => by have := HOR.out p e; have := HWT.out; omega)
                have hsx := hgr.size
                have om2 := owns_grown om2 hgr (fun g g' e1 e2 => by have e1 : some gm = some g := e1; cases e1; have h2 := HOR.out g' e2; rcases hat72 with e3 | e3; exact HD.out.2.2 gm g' e3 e2; omega)
                generalize hh79 : wc.heap.size = h79 at *
                clear hgr orr
                refine ⟨(fun _ => ⟨t1, t2⟩), ?_⟩
                try simp only [Act.put, List.setIfInBounds_toArray, List.set_cons_zero, List.set_cons_succ]
                refine wpK_takeP (i := 18) (d := some 80) (v := ?_) rfl (by kernel_rfl) (by kernel_rfl) (by kernel_rfl) (by kernel_rfl) rfl (fun _ _ _ h => h) (.inl ⟨by rfl, fun w hw => ?_⟩) (fun h => ⟨t1, t2⟩) ?_
                rotate_left
                · clear hw; go_simp; with_reducible rfl
                try simp only [Act.put, List.setIfInBounds_toArray, List.set_cons_zero, List.set_cons_succ]
                refine wpK_take (i := 19) (d := some 81) (v := ?_) rfl rfl (by kernel_rfl) (by kernel_rfl) (by kernel_rfl) (by kernel_rfl) (by kernel_rfl) rfl (fun _ _ _ h => h) (.inl ⟨by rfl, fun w hw => ?_⟩) ⟨t1, t2⟩ ?_
                rotate_left
                · clear hw; go_simp; with_reducible rfl
                try simp only [Act.put, List.setIfInBounds_toArray, List.set_cons_zero, List.set_cons_succ]
                refine wpK_set (i := 20) (by kernel_rfl) rfl rfl rfl _ _ _ rfl T 1 (.slice (some ⟨gm, 0, none⟩) (k + 1) cm) rfl rfl rfl (by rw [t1]; rfl) (hfx.fz 1) (by kernel_rfl) rfl ?_
                refine ⟨(fun h => absurd h (by intro h; have h : true = false := h; cases h)), ?_⟩
                try simp only [Act.put, List.setIfInBounds_toArray, List.set_cons_zero, List.set_cons_succ]
                refine wpK_takeP (i := 21) (d := some 82) (v := ?_) rfl (by kernel_rfl) (by kernel_rfl) (by kernel_rfl) (by kernel_rfl) rfl (fun _ _ _ h => h) (.inl ⟨by rfl, fun w hw => ?_⟩) (fun h => absurd h (by intro h; have h : true = false := h; cases h)) ?_
                rotate_left
                · clear hw; go_simp; with_reducible rfl
                try simp only [Act.put, List.setIfInBounds_toArray, List.set_cons_zero, List.set_cons_succ]
                refine wpK_takeP (i := 22) (d := some 83) (v := ?_) rfl (by kernel_rfl) (by kernel_rfl) (by kernel_rfl) (by kernel_rfl) rfl (fun _ _ _ h => h) (.inl ⟨by rfl, fun w hw => ?_⟩) (fun h => absurd h (by intro h; have h : true = false := h; cases h)) ?_
                rotate_left
                · clear hw; go_simp; with_reducible rfl
                try simp only [Act.put, List.setIfInBounds_toArray, List.set_cons_zero, List.set_cons_succ]
                have t2x : (we.setCell ⟨T, 1, none⟩ (.slice (some ⟨gm, 0, none⟩) (k + 1) cm)).cell? ⟨T, 2, none⟩ = some rv := (World.cell?_setCell_other _ _ _ _ (by intro e; have := congrArg Addr.off e; dsimp only at this; omega)).trans t2
                refine wpK_store1 (i := 23) (by kernel_rfl) rfl rfl rfl (by kernel_rfl) (by kernel_rfl) _ _ _ rfl T 2 (.slice (some ⟨gr, 0, none⟩) (k + 1) cr) rfl rfl rfl (by rw [t2x]; rfl) (by rw [World.frozen?_setCell]; exact hfx.fz 2) (by kernel_rfl) rfl ?_
                have hdist := new_dist (gm := gm) (gr := gr) HD.out HOM.out HOR.out HRB.out hat72 hat79 (by omega) (by omega) (by omega) (by omega) (by omega)
                have HNEW := Lib.hid (new_next (w := we) (gm := gm) (gr := gr) (mv' := .slice (some ⟨gm, 0, none⟩) (k + 1) cm) (rv' := .slice (some ⟨gr, 0, none⟩) (k + 1) cr) t1 t2 (by rw [HY71.out] at om2; exact om2) (by rw [HM'.out] at orr2; exact orr2) hrows HRB.out nh (by omega) (by omega) HINJ.out rfl rfl hdist (by have := own_lt om2 gm rfl; omega) (by have := own_lt orr2 gr rfl; omega))
                have HFXN := Lib.hid ((hfx.set (v := .slice (some ⟨gm, 0, none⟩) (k + 1) cm) (.inl rfl) HGT.out).set (v := .slice (some ⟨gr, 0, none⟩) (k + 1) cr) (.inr rfl) HGT.out)
                have HALLN : Hid (NumB (T + 1) (rowL (allTo n (sysB s) (k + 1))) ((we.setCell ⟨T, 1, none⟩ (.slice (some ⟨gm, 0, none⟩) (k + 1) cm)).setCell ⟨T, 2, none⟩ (.slice (some ⟨gr, 0, none⟩) (k + 1) cr))) := Lib.hid ((hall.other (by omega)).other (by omega))
                have HC1N := Lib.hid ((World.cell?_setCell_other (we.setCell ⟨T, 1, none⟩ (.slice (some ⟨gm, 0, none⟩) (k + 1) cm)) ⟨T, 2, none⟩ ⟨W.heap.size, 1, none⟩ (.slice (some ⟨gr, 0, none⟩) (k + 1) cr) (by intro e; have := congrArg Addr.block e; dsimp only at this; have := HWT.out; omega)).trans ((World.cell?_setCell_other we ⟨T, 1, none⟩ ⟨W.heap.size, 1, none⟩ (.slice (some ⟨gm, 0, none⟩) (k + 1) cm) (by intro e; have := congrArg Addr.block e; dsimp only at this; have := HWT.out; omega)).trans c1))
                have HBN := Lib.hid ((hB.setCell (p := ⟨T, 1, none⟩) (Nat.le_of_lt HWT.out) (.slice (some ⟨gm, 0, none⟩) (k + 1) cm)).setCell (p := ⟨T, 2, none⟩) (Nat.le_of_lt HWT.out) (.slice (some ⟨gr, 0, none⟩) (k + 1) cr))
                generalize (we.setCell ⟨T, 1, none⟩ (.slice (some ⟨gm, 0, none⟩) (k + 1) cm)).setCell ⟨T, 2, none⟩ (.slice (some ⟨gr, 0, none⟩) (k + 1) cr) = wz at *
                clear t1 t2 t2x hfx hall nh c1 hB hrows om2 orr2 hdist n78
                go_wp2_with fail
                go_roundw
                case rel => exact ⟨k + 1, by omega, by go_num, ⟨_, _, _, HNEW.out⟩, HFXN.out, HALLN.out, HC1N.out, HBN.out⟩
                case measure => simp [intOf]; omega
            · refine wpOp_one (i := 16) rfl rfl ?_
              go_simp
              have hBx := alloc_belowL wd (.cells #[.slice (some ⟨q0 + 1, 0, none⟩) m m] 77)
              have t1 := keptBelow hBx t1
              have t2 := keptBelow hBx t2
              have om := owns_below om hBx
              have orr := owns_below orr hBx
              have hrows := fun i hi => (hrows i hi).via hBx
              have hfx := hfx.via hBx
              have hall := hall.via hBx
              have nh := nh.via hBx
              have c1 := keptBelow hBx c1
              have hB := belowVia hBx hB
              have hsx := hBx.size
              have hsy : wd.heap.size < (wd.alloc (.cells #[.slice (some ⟨q0 + 1, 0, none⟩) m m] 77)).heap.size := by have := alloc_sizeL wd (.cells #[.slice (some ⟨q0 + 1, 0, none⟩) m m] 77); omega
              have n78 : (wd.alloc (.cells #[.slice (some ⟨q0 + 1, 0, none⟩) m m] 77)).cell? ⟨wd.heap.size, 0, none⟩ = some (.slice (some ⟨q0 + 1, 0, none⟩) m m) := (cell_of_row _ _ 0 _ _ _ (heap_alloc_new wd (.cells #[.slice (some ⟨q0 + 1, 0, none⟩) m m] 77))).trans rfl
              have hp78b : S0 ≤ wd.heap.size := by omega
              generalize hp78 : wd.heap.size = p78 at *
              generalize wd.alloc (.cells #[.slice (some ⟨q0 + 1, 0, none⟩) m m] 77) = wa at *
              clear hBx
              refine ⟨⟨t1, t2⟩, ?_⟩
              try simp only [Act.put, List.setIfInBounds_toArray, List.set_cons_zero, List.set_cons_succ]
              refine wpK_one (i := 9) (by kernel_rfl) rfl rfl ?_
              go_simp
              have hBx := alloc_belowL wa (.cells #[.int .i64 y71] 3)
              have t1 := keptBelow hBx t1
              have t2 := keptBelow hBx t2
              have om := owns_below om hBx
              have orr := owns_below orr hBx
              have hrows := fun i hi => (hrows i hi).via hBx
              have hfx := hfx.via hBx
              have hall := hall.via hBx
              have nh := nh.via hBx
              have c1 := keptBelow hBx c1
              have hB := belowVia hBx hB
              have hsx := hBx.size
              have hsy : wa.heap.size < (wa.alloc (.cells #[.int .i64 y71] 3)).heap.size := by have := alloc_sizeL wa (.cells #[.int .i64 y71] 3); omega
              have n71 : (wa.alloc (.cells #[.int .i64 y71] 3)).cell? ⟨wa.heap.size, 0, none⟩ = some (.int .i64 y71) := (cell_of_row _ _ 0 _ _ _ (heap_alloc_new wa (.cells #[.int .i64 y71] 3))).trans rfl
              have n78 := keptBelow hBx n78
              have hp71b : S0 ≤ wa.heap.size := by omega
              generalize hp71 : wa.heap.size = p71 at *
              generalize wa.alloc (.cells #[.int .i64 y71] 3) = wb at *
              clear hBx
              refine ⟨⟨t1, t2⟩, ?_⟩
              try simp only [Act.put, List.setIfInBounds_toArray, List.set_cons_zero, List.set_cons_succ]
              have hsz72 : S0 ≤ wb.heap.size := by omega
              refine wpK_append (i := 10) (dt := 72) (by kernel_rfl) rfl rfl rfl _ _ _ rfl (T + 1 + 1) 3 j0 (.int .i64 0) 1 8 Tryz.underlying22 HJ0.out HY0.out HY1.out HY2.out rfl (by decide) mv k (intsV ((List.range k).map (startM n))) rfl om ⟨p71, 0, none⟩ 1 1 [.int .i64 y71] rfl rfl (news_of_cell n71) (one_intC _) (by decide) (by unfold maxLen; omega) (by omega) (by omega) ?_
              intro gm cm wc om2 hgr hat72 hlt72
              have t1 := kept_own hgr t1 (fun p e => by have := HOM.out p e; omega)
              have t2 := kept_own hgr t2 (fun p e => by have := HOM.out p e; omega)
              have hrows := fun i hi => kept_num hgr (hrows i hi) (fun p e => HD.out.1 i hi p e)
              have hfx := hfx.grown hgr (fun p e => by have := HOM.out p e; omega) HGT.out
              have hall := kept_num hgr hall (fun p e => by have := HOM.out p e; omega)
              have nh := kept_num hgr nh (fun p e => by have := HOM.out p e; omega)
              have c1 := kept_own hgr c1 (fun p e => by have := HOM.out p e; have := HWT.out; omega)
              have hB := hB.grown hgr hB.size (fun p e => by have := HOM.out p e; have := HWT.out; omega)
              have hsx := hgr.size
              have orr := owns_grown orr hgr (fun g g' e1 e2 => fun e => HD.out.2.2 g' g e2 e1 e.symm)
              have n78 := kept_own hgr n78 (fun p e => by have := HOM.out p e; omega)
              generalize hh72 : wb.heap.size = h72 at *
              clear hgr om
              refine ⟨(fun _ => ⟨t1, t2⟩), ?_⟩
              try simp only [Act.put, List.setIfInBounds_toArray, List.set_cons_zero, List.set_cons_succ]
              have hsz79 : gm < wc.heap.size := by omega
              have hsz79b : S0 ≤ wc.heap.size := by omega
              refine wpK_append (i := 17) (dt := 79) (by kernel_rfl) rfl rfl rfl _ _ _ rfl (T + 1 + 1) 77 l0 (.slice none 0 0) 1 24 Tryz.underlying101 HL0.out HX0.out HX1.out HX2.out rfl (by decide) rv k ((List.range k).map (rowV n rb)) rfl orr ⟨p78, 0, none⟩ 1 1 [.slice (some ⟨q0 + 1, 0, none⟩) m m] rfl rfl (news_of_cell n78) (one_slc _ _ _) (by decide) (by unfold maxLen; omega) (by omega) (by omega) ?_
              intro gr cr we orr2 hgr hat79 hlt79
              have t1 := kept_own hgr t1 (fun p e => by have := HOR.out p e; omega)
              have t2 := kept_own hgr t2 (fun p e => by have := HOR.out p e; omega)
              have hrows := fun i hi => kept_num hgr (hrows i hi) (fun p e => HD.out.2.1 i hi p e)
              have hfx := hfx.grown hgr (fun p e => by have := HOR.out p e; omega) HGT.out
              have hall := kept_num hgr hall (fun p e => by have := HOR.out p e; omega)
              have nh := kept_num hgr nh (fun p e => by have := HOR.out p e; omega)
              have c1 := kept_own hgr c1 (fun p e => by have := HOR.out p e; have := HWT.out; omega)
              have hB := hB.grown hgr hB.size (fun p e => by have := HOR.out p e; have := HWT.out; omega)
              have hsx := hgr.size
              have om2 := owns_grown om2 hgr (fun g g' e1 e2 => by have e1 : some gm = some g := e1; cases e1; have h2 := HOR.out g' e2; rcases hat72 with e3 | e3; exact HD.out.2.2 gm g' e3 e2; omega)
              generalize hh79 : wc.heap.size = h79 at *
              clear hgr orr
              refine ⟨(fun _ => ⟨t1, t2⟩), ?_⟩
              try simp only [Act.put, List.setIfInBounds_toArray, List.set_cons_zero, List.set_cons_succ]
              refine wpK_takeP (i := 18) (d := some 80) (v := ?_) rfl (by kernel_rfl) (by kernel_rfl) (by kernel_rfl) (by kernel_rfl) rfl (fun _ _ _ h => h) (.inl ⟨by rfl, fun w hw => ?_⟩) (fun h => ⟨t1, t2⟩) ?_
              rotate_left
              · clear hw; go_simp; with_reducible rfl
              try simp only [Act.put, List.setIfInBounds_toArray, List.set_cons_zero, List.set_cons_succ]
              refine wpK_take (i := 19) (d := some 81) (v := ?_) rfl rfl (by kernel_rfl) (by kernel_rfl) (by kernel_rfl) (by kernel_rfl) (by kernel_rfl) rfl (fun _ _ _ h => h) (.inl ⟨by rfl, fun w hw => ?_⟩) ⟨t1, t2⟩ ?_
              rotate_left
              · clear hw; go_simp; with_reducible rfl
              try simp only [Act.put, List.setIfInBounds_toArray, List.set_cons_zero, List.set_cons_succ]
              refine wpK_set (i := 20) (by kernel_rfl) rfl rfl rfl _ _ _ rfl T 1 (.slice (some ⟨gm, 0, none⟩) (k + 1) cm) rfl rfl rfl (by rw [t1]; rfl) (hfx.fz 1) (by kernel_rfl) rfl ?_
              refine ⟨(fun h => absurd h (by intro h; have h : true = false := h; cases h)), ?_⟩
              try simp only [Act.put, List.setIfInBounds_toArray, List.set_cons_zero, List.set_cons_succ]
              refine wpK_takeP (i := 21) (d := some 82) (v := ?_) rfl (by kernel_rfl) (by kernel_rfl) (by kernel_rfl) (by kernel_rfl) rfl (fun _ _ _ h => h) (.inl ⟨by rfl, fun w hw => ?_⟩) (fun h => absurd h (by intro h; have h : true = false := h; cases h)) ?_
              rotate_left
              · clear hw; go_simp; with_reducible rfl
              try simp only [Act.put, List.setIfInBounds_toArray, List.set_cons_zero, List.set_cons_succ]
              refine wpK_takeP (i := 22) (d := some 83) (v := ?_) rfl (by kernel_rfl) (by kernel_rfl) (by kernel_rfl) (by kernel_rfl) rfl (fun _ _ _ h => h) (.inl ⟨by rfl, fun w hw => ?_⟩) (fun h => absurd h (by intro h; have h : true = false := h; cases h)) ?_
              rotate_left
              · clear hw; go_simp; with_reducible rfl
              try simp only [Act.put, List.setIfInBounds_toArray, List.set_cons_zero, List.set_cons_succ]
              have t2x : (we.setCell ⟨T, 1, none⟩ (.slice (some ⟨gm, 0, none⟩) (k + 1) cm)).cell? ⟨T, 2, none⟩ = some rv := (World.cell?_setCell_other _ _ _ _ (by intro e; have := congrArg Addr.off e; dsimp only at this; omega)).trans t2
              refine wpK_store1 (i := 23) (by kernel_rfl) rfl rfl rfl (by kernel_rfl) (by kernel_rfl) _ _ _ rfl T 2 (.slice (some ⟨gr, 0, none⟩) (k + 1) cr) rfl rfl rfl (by rw [t2x]; rfl) (by rw [World.frozen?_setCell]; exact hfx.fz 2) (by kernel_rfl) rfl ?_
              have hdist := new_dist (gm := gm) (gr := gr) HD.out HOM.out HOR.out HRB.out hat72 hat79 (by omega) (by omega) (by omega) (by omega) (by omega)
              have HNEW := Lib.hid (new_next (w := we) (gm := gm) (gr := gr) (mv' := .slice (some ⟨gm, 0, none⟩) (k + 1) cm) (rv' := .slice (some ⟨gr, 0, none⟩) (k + 1) cr) t1 t2 (by rw [HY71.out] at om2; exact om2) (by rw [HM'.out] at orr2; exact orr2) hrows HRB.out nh (by omega) (by omega) HINJ.out rfl rfl hdist (by have := own_lt om2 gm rfl; omega) (by have := own_lt orr2 gr rfl; omega))
              have HFXN := Lib.hid ((hfx.set (v := .slice (some ⟨gm, 0, none⟩) (k + 1) cm) (.inl rfl) HGT.out).set (v := .slice (some ⟨gr, 0, none⟩) (k + 1) cr) (.inr rfl) HGT.out)
              have HALLN : Hid (NumB (T + 1) (rowL (allTo n (sysB s) (k + 1))) ((we.setCell ⟨T, 1, none⟩ (.slice (some ⟨gm, 0, none⟩) (k + 1) cm)).setCell ⟨T, 2, none⟩ (.slice (some ⟨gr, 0, none⟩) (k + 1) cr))) := Lib.hid ((hall.other (by omega)).other (by omega))
              have HC1N := Lib.hid ((World.cell?_setCell_other (we.setCell ⟨T, 1, none⟩ (.slice (some ⟨gm, 0, none⟩) (k + 1) cm)) ⟨T, 2, none⟩ ⟨W.heap.size, 1, none⟩ (.slice (some ⟨gr, 0, none⟩) (k + 1) cr) (by intro e; have := congrArg Addr.block e; dsimp only at this; have := HWT.out; omega)).trans ((World.cell?_setCell_other we ⟨T, 1, none⟩ ⟨W.heap.size, 1, none⟩ (.slice (some ⟨gm, 0, none⟩) (k + 1) cm) (by intro e; have := congrArg Addr.block e; dsimp only at this; have := HWT.out; omega)).trans c1))
              have HBN := Lib.hid ((hB.setCell (p := ⟨T, 1, none⟩) (Nat.le_of_lt HWT.out) (.slice (some ⟨gm, 0, none⟩) (k + 1) cm)).setCell (p := ⟨T, 2, none⟩) (Nat.le_of_lt HWT.out) (.slice (some ⟨gr, 0, none⟩) (k + 1) cr))
              generalize (we.setCell ⟨T, 1, none⟩ (.slice (some ⟨gm, 0, none⟩) (k + 1) cm)).setCell ⟨T, 2, none⟩ (.slice (some ⟨gr, 0, none⟩) (k + 1) cr) = wz at *
              clear t1 t2 t2x hfx hall nh c1 hB hrows om2 orr2 hdist n78
              go_wp2_with fail
              go_roundw
              case rel => exact ⟨k + 1, by omega, by go_num, ⟨_, _, _, HNEW.out⟩, HFXN.out, HALLN.out, HC1N.out, HBN.out⟩
              case measure => simp [intOf]; omega
      · have hsg : sgV (sysB s) k = 1 := by unfold sgV; rw [← HVV.out]; rw [if_neg hv0]
        have HW1 := Lib.hid (fun w => whole_num 1 (by decide) (by decide) w)
        have HW2 := Lib.hid (fun w => whole_num (1 * v) (by omega) (by omega) w)
        obtain ⟨y, hy⟩ : ∃ y, y = 1 * v := ⟨_, rfl⟩
        rw [← hy] at HW2
        have hw2 : IntKind.i64.wrap (1 * v) = y := by rw [hy, IntKind.wrap_i64]; omega
        have hw3 : IntKind.i64.wrap (v) = y := by rw [hy, IntKind.wrap_i64]; omega
        have HHL := Lib.hid (helper_list (sysB s) (k := k) hlt)
        rw [hsg, ← HVV.out, ← hy] at HHL
        clear hsg hy
        go_upto_region 10 with fail
        generalize wr.alloc (.cells #[.slice ra rl rc, .int .i64 v] 60) = wb at *
        generalize wr.heap.size = q0 at *
        go_wp2_with (at_make; go_must (refine wpList_make_full _ rfl _ _ 77 rfl wb.heap.size 81 i0 (.agg zeroL.toArray) 10 Tryz.underlying77 HI0.out HZ0.out HZ1.out .i64 .i64 (m : Int) (m : Int) m rfl rfl rfl rfl (by rw [HZ2.out]; omega) (by unfold maxLen; omega) (Nat.le_refl _) ?_); intro wc hown hgrow; have hnh := num_made hown; have hBm := belowMadeL hgrow; clear hown hgrow; rw [sby] at hnh; rw [sby]; have hnh2 := hnh; rw [HM'.out] at hnh2; have HNH := Lib.hid hnh2; have hsz : q0 + 1 < wc.heap.size := (Array.getElem?_eq_some_iff.1 hnh).1; clear hnh hnh2)
        have d1 := keptBelow hBm d1
        have c1 := keptBelow hBm c1'
        have hnw := HNW2.out.via hBm
        have hfx := HFX2.out.via hBm
        have hall := HALL2.out.via hBm
        have hB := belowVia hBm HB2.out
        have nh := HNH.out
        have hkh : k < (List.replicate (n + 1) (0 : Int)).length := by rw [List.length_replicate]; omega
        have hnh : n < ((List.replicate (n + 1) (0 : Int)).set k 1).length := by rw [List.length_set, List.length_replicate]; omega
        have HST1 := Lib.hid (fun w h => (store_row (w := w) (g := q0 + 1) h hkh 1).2)
        have HST2 := Lib.hid (fun w h => (store_row (w := w) (g := q0 + 1) h hnh y).2)
        have hsz1 := sz_num 1
        have hsz2 := sz_num y
        have hl1 := numL_len 1
        have hl2 := numL_len y
        have ho1 := numL_one 1
        have ho2 := numL_one y
        clear hBm c1' HNW2 HFX2 HALL2 HB2 HNH e0 e1
        generalize numL 1 = l1 at *
        generalize numL y = l2 at *
        generalize hL0 : List.replicate (n + 1) (0 : Int) = L0 at *
        go_upto_region 11 with fail
        refine wp_region_K (fun w' => w'.cell? ⟨q0, 1, none⟩ = some (.int .i64 v)) 14 (by kernel_rfl) ?_
        refine wpK_take (i := 0) (d := some 36) (v := ?_) rfl rfl (by kernel_rfl) (by kernel_rfl) (by kernel_rfl) (by kernel_rfl) (by kernel_rfl) rfl (fun _ _ _ h => h) (.inl ⟨by rfl, fun w hw => ?_⟩) d1 ?_
        rotate_left
        · clear hw; go_simp; with_reducible rfl
        try simp only [Act.put, List.setIfInBounds_toArray, List.set_cons_zero, List.set_cons_succ]
        refine wpK_take (i := 1) (d := some 37) (v := ?_) rfl rfl (by kernel_rfl) (by kernel_rfl) (by kernel_rfl) (by kernel_rfl) (by kernel_rfl) rfl (fun _ _ _ h => h) (.inl ⟨by rfl, fun w hw => ?_⟩) d1 ?_
        rotate_left
        · clear hw; go_simp; with_reducible rfl
        try simp only [Act.put, List.setIfInBounds_toArray, List.set_cons_zero, List.set_cons_succ]
        refine wpK_take (i := 2) (d := some 38) (v := ?_) rfl rfl (by kernel_rfl) (by kernel_rfl) (by kernel_rfl) (by kernel_rfl) (by kernel_rfl) rfl (fun _ _ _ h => h) (.inl ⟨by rfl, fun w hw => ?_⟩) d1 ?_
        rotate_left
        · clear hw; go_simp; with_reducible rfl
        try simp only [Act.put, List.setIfInBounds_toArray, List.set_cons_zero, List.set_cons_succ]
        refine wpK_take (i := 3) (d := some 39) (v := ?_) rfl rfl (by kernel_rfl) (by kernel_rfl) (by kernel_rfl) (by kernel_rfl) (by kernel_rfl) rfl (fun _ _ _ h => h) (.inl ⟨by rfl, fun w hw => ?_⟩) d1 ?_
        rotate_left
        · clear hw; go_simp; with_reducible rfl
        try simp only [Act.put, List.setIfInBounds_toArray, List.set_cons_zero, List.set_cons_succ]
        refine wpK_take (i := 4) (d := some 40) (v := ?_) rfl rfl (by kernel_rfl) (by kernel_rfl) (by kernel_rfl) (by kernel_rfl) (by kernel_rfl) rfl (fun _ _ _ h => h) (.inl ⟨by rfl, fun w hw => ?_⟩) d1 ?_
        rotate_left
        · clear hw; go_simp; with_reducible rfl
        try simp only [Act.put, List.setIfInBounds_toArray, List.set_cons_zero, List.set_cons_succ]
        refine wpK_take (i := 6) (d := some 42) (v := ?_) rfl rfl (by kernel_rfl) (by kernel_rfl) (by kernel_rfl) (by kernel_rfl) (by kernel_rfl) rfl (fun _ _ _ h => h) (.inl ⟨by rfl, fun w hw => ?_⟩) d1 ?_
        rotate_left
        · clear hw; go_simp; with_reducible rfl
        try simp only [Act.put, List.setIfInBounds_toArray, List.set_cons_zero, List.set_cons_succ]
        refine wpK_take (i := 7) (d := some 43) (v := ?_) rfl rfl (by kernel_rfl) (by kernel_rfl) (by kernel_rfl) (by kernel_rfl) (by kernel_rfl) rfl (fun _ _ _ h => h) (.inl ⟨by rfl, fun w hw => ?_⟩) d1 ?_
        rotate_left
        · clear hw; go_simp; with_reducible rfl
        try simp only [Act.put, List.setIfInBounds_toArray, List.set_cons_zero, List.set_cons_succ]
        refine wpK_take (i := 8) (d := some 44) (v := ?_) rfl rfl (by kernel_rfl) (by kernel_rfl) (by kernel_rfl) (by kernel_rfl) (by kernel_rfl) rfl (fun _ _ _ h => h) (.inl ⟨by rfl, fun w hw => ?_⟩) d1 ?_
        rotate_left
        · (skip); go_simp; with_reducible rfl
        try simp only [Act.put, List.setIfInBounds_toArray, List.set_cons_zero, List.set_cons_succ]
        refine wpK_take (i := 9) (d := some 45) (v := ?_) rfl rfl (by kernel_rfl) (by kernel_rfl) (by kernel_rfl) (by kernel_rfl) (by kernel_rfl) rfl (fun _ _ _ h => h) (.inl ⟨by rfl, fun w hw => ?_⟩) d1 ?_
        rotate_left
        · clear hw; go_simp; with_reducible rfl
        try simp only [Act.put, List.setIfInBounds_toArray, List.set_cons_zero, List.set_cons_succ]
        refine wpK_one (i := 5) (by kernel_rfl) rfl rfl ?_
        go_simp
        refine (HW1.out _).mono ?_
        rintro e w1 ⟨rfl, hBw1⟩
        have d1 := keptBelow hBw1 (keptBelow ((Below.refl _ _).drew) d1)
        have c1 := keptBelow hBw1 (keptBelow ((Below.refl _ _).drew) c1)
        have hB := belowVia hBw1 (belowVia ((Below.refl _ _).drew) hB)
        have hnw := (hnw.via ((Below.refl _ _).drew)).via hBw1
        have hfx := (hfx.via ((Below.refl _ _).drew)).via hBw1
        have hall := (hall.via ((Below.refl _ _).drew)).via hBw1
        have nh := (nh.via ((Below.refl _ _).drew)).via hBw1
        refine ⟨d1, ?_⟩
        try simp only [Act.put, List.setIfInBounds_toArray, List.set_cons_zero, List.set_cons_succ]
        refine wpK_one (i := 10) (by kernel_rfl) rfl rfl ?_
        go_simp
        refine (HW2.out _).mono ?_
        rintro e w2 ⟨rfl, hBw2⟩
        have d1 := keptBelow hBw2 d1
        have c1 := keptBelow hBw2 c1
        have hB := belowVia hBw2 hB
        have hnw := hnw.via hBw2
        have hfx := hfx.via hBw2
        have hall := hall.via hBw2
        have nh := nh.via hBw2
        refine ⟨d1, ?_⟩
        try simp only [Act.put, List.setIfInBounds_toArray, List.set_cons_zero, List.set_cons_succ]
        refine wpK_take (i := 11) (d := some 47) (v := ?_) rfl rfl (by kernel_rfl) (by kernel_rfl) (by kernel_rfl) (by kernel_rfl) (by kernel_rfl) rfl (fun _ _ _ h => h) (.inl ⟨by rfl, fun w hw => ?_⟩) d1 ?_
        rotate_left
        · clear hw; go_simp; with_reducible rfl
        try simp only [Act.put, List.setIfInBounds_toArray, List.set_cons_zero, List.set_cons_succ]
        refine wpK_setN (i := 12) (by kernel_rfl) rfl rfl rfl _ _ _ rfl (q0 + 1) (k * 10) l1 rfl rfl (by rw [hl1]; exact num_there_at nh hkh) hsz1 ho1 ?_
        have ho := only_setCells (q0 + 1) l1 w2 w2 (k * 10) (OnlyAt.refl _ _ (Array.getElem?_eq_some_iff.1 nh).1)
        have d1 := ho.cell (by omega) d1
        have nh2 := HST1.out _ nh
        refine ⟨(fun _ => d1), ?_⟩
        try simp only [Act.put, List.setIfInBounds_toArray, List.set_cons_zero, List.set_cons_succ]
        refine wpK_take (i := 13) (d := some 48) (v := ?_) rfl rfl (by kernel_rfl) (by kernel_rfl) (by kernel_rfl) (by kernel_rfl) (by kernel_rfl) rfl (fun _ _ _ h => h) (.inl ⟨by rfl, fun w hw => ?_⟩) d1 ?_
        rotate_left
        · clear hw; go_simp; with_reducible rfl
        try simp only [Act.put, List.setIfInBounds_toArray, List.set_cons_zero, List.set_cons_succ]
        refine wpK_store (i := 14) (by kernel_rfl) rfl rfl rfl (by kernel_rfl) (by kernel_rfl) _ _ _ rfl (q0 + 1) (n * 10) l2 rfl rfl (by rw [hl2]; exact num_there_at nh2 hnh) hsz2 ho2 ?_
        have ho := only_setCells (q0 + 1) l2 w2 _ (n * 10) ho
        have HNH : Hid (NumB (q0 + 1) (rowL (rowOf n (startR n (sysB s)) k)) ((w2.setCells (q0 + 1) (k * 10) l1).setCells (q0 + 1) (n * 10) l2)) := Lib.hid (by rw [← HHL.out]; exact HST2.out _ nh2)
        have HNW := Lib.hid (hnw.only ho (by have := HQ0.out; omega) (fun p e => by have := HOM.out p e; omega) (fun p e => by have := HOR.out p e; omega) (fun i hi => by have := HRB.out i hi; omega))
        have HFX := Lib.hid (hfx.only ho (by have := HQ0.out; omega) HGT.out)
        have HALL := Lib.hid (ho.num hall (by have := HQ0.out; omega))
        have HC1 := Lib.hid (ho.cell (by have := HQ0.out; have := HWT.out; omega) c1)
        have HB := Lib.hid (ho.below hB (by have := HQ0.out; have := HWT.out; omega))
        clear ho hnw hfx hall c1 hB nh nh2 HST1 HST2 hsz1 hsz2 hl1 hl2 ho1 ho2 d1 HW1 HW2 hkh hnh hBw1 hBw2 hL0 hw2 hw3 hsz
        generalize (w2.setCells (q0 + 1) (k * 10) l1).setCells (q0 + 1) (n * 10) l2 = w9 at *
        go_wp2_with fail
        go_loopw [51] (fun ix wx => ∃ i : Nat, i ≤ m ∧ ix = .int .i64 i ∧ NumB (T + 1) (rowL (midA n (sysB s) k i)) wx ∧ NumB (q0 + 1) (rowL (rowOf n (startR n (sysB s)) k)) wx ∧ NewM wx T (T + 1) n (sysB s) k mv rv rb ∧ FixM wx T gc c n (sysA s) ∧ wx.cell? ⟨W.heap.size, 1, none⟩ = some (.slice (some ⟨g, o, none⟩) n ca) ∧ Below W.heap.size W wx) (fun ix _ => m - (intOf ix).toNat)
        case atStart => exact ⟨0, by omega, rfl, by rw [midA_zero]; exact HALL.out, HNH.out, HNW.out, HFX.out, HC1.out, HB.out⟩
        case round =>
          clear HALL HNH HNW HFX HC1 HB
          obtain ⟨i, hi, rfl, hmid, nh, hnw, hfx, c1, hB⟩ := hrel
          by_cases hit : i < m
          · have hit' : (i : Int) < m := by omega
            have hin : i ≤ n := by have := HM'.out; omega
            have hil : i < (midA n (sysB s) k i).length := by rw [midA_len]; omega
            have hyy : ∀ j, j < 10 → wr.cell? ⟨q0 + 1, i * 10 + j, none⟩ = some (.int .u64 (wd (rowH n (sysB s) k i) j)) := fun j hj => by
              have := nh.cell (rowL_get (l := rowOf n (startR n (sysB s)) k) (i := i) (by rw [rowOf_len]; omega) hj)
              rw [rowOf_get _ _ hin] at this
              unfold startR at this
              rw [if_neg (by omega)] at this
              exact this
            have HAD := Lib.hid (fun w hz hy => add_row (l := midA n (sysB s) k i) (i := i) (p := T + 1) (g := q0 + 1) (o := i * 10) (y := rowH n (sysB s) k i) w hz hil hy (by have := HQ0.out; omega))
            rw [midA_set (sysB s) k hin] at HAD
            clear hin hil
            go_upto_region 15 with fail
            refine wp_region_K (fun _ => True) 6 (by kernel_rfl) ?_
            refine wpK_takeP (i := 0) (d := some 54) (v := ?_) rfl (by kernel_rfl) (by kernel_rfl) (by kernel_rfl) (by kernel_rfl) rfl (fun _ _ _ h => h) (.inl ⟨by rfl, fun w hw => ?_⟩) (fun h => trivial) ?_
            rotate_left
            · clear hw; go_simp; with_reducible rfl
            try simp only [Act.put, List.setIfInBounds_toArray, List.set_cons_zero, List.set_cons_succ]
            refine wpK_takeP (i := 1) (d := some 55) (v := ?_) rfl (by kernel_rfl) (by kernel_rfl) (by kernel_rfl) (by kernel_rfl) rfl (fun _ _ _ h => h) (.inl ⟨by rfl, fun w hw => ?_⟩) (fun h => trivial) ?_
            rotate_left
            · clear hw; go_simp; with_reducible rfl
            try simp only [Act.put, List.setIfInBounds_toArray, List.set_cons_zero, List.set_cons_succ]
            refine wpK_take (i := 2) (d := some 56) (v := ?_) rfl rfl (by kernel_rfl) (by kernel_rfl) (by kernel_rfl) (by kernel_rfl) (by kernel_rfl) rfl (fun _ _ _ h => h) (.inl ⟨by rfl, fun w hw => ?_⟩) trivial ?_
            rotate_left
            · clear hw; go_simp; with_reducible rfl
            try simp only [Act.put, List.setIfInBounds_toArray, List.set_cons_zero, List.set_cons_succ]
            refine wpK_takeP (i := 3) (d := some 57) (v := ?_) rfl (by kernel_rfl) (by kernel_rfl) (by kernel_rfl) (by kernel_rfl) rfl (fun _ _ _ h => h) (.inl ⟨by rfl, fun w hw => ?_⟩) (fun h => trivial) ?_
            rotate_left
            · clear hw; go_simp; with_reducible rfl
            try simp only [Act.put, List.setIfInBounds_toArray, List.set_cons_zero, List.set_cons_succ]
            refine wpK_takeP (i := 4) (d := some 58) (v := ?_) rfl (by kernel_rfl) (by kernel_rfl) (by kernel_rfl) (by kernel_rfl) rfl (fun _ _ _ h => h) (.inl ⟨by rfl, fun w hw => ?_⟩) (fun h => trivial) ?_
            rotate_left
            · clear hw; go_simp; with_reducible rfl
            try simp only [Act.put, List.setIfInBounds_toArray, List.set_cons_zero, List.set_cons_succ]
            refine wpK_take (i := 5) (d := some 59) (v := ?_) rfl rfl (by kernel_rfl) (by kernel_rfl) (by kernel_rfl) (by kernel_rfl) (by kernel_rfl) rfl (fun _ _ _ h => h) (.inl ⟨by rfl, fun w hw => ?_⟩) trivial ?_
            rotate_left
            · clear hw; go_simp; with_reducible rfl
            try simp only [Act.put, List.setIfInBounds_toArray, List.set_cons_zero, List.set_cons_succ]
            refine wpK_one (i := 6) (by kernel_rfl) rfl rfl ?_
            go_simp
            refine (HAD.out _ ?_ ?_).mono ?_
            exact hmid
            exact hyy
            rintro e w3 ⟨rfl, hmid2, ho⟩
            try simp only [Act.put, List.setIfInBounds_toArray, List.set_cons_zero, List.set_cons_succ]
            refine wpK_done (by kernel_rfl) ?_ _
            have HMID := Lib.hid hmid2
            have HNH := Lib.hid (ho.num (nh.via (Below.refl _ _).drew) (by have := HQ0.out; omega))
            have HNW := Lib.hid ((hnw.via (Below.refl _ _).drew).only ho (by omega) (fun p e => by have := HOM.out p e; omega) (fun p e => by have := HOR.out p e; omega) (fun i hi => by have := HRB.out i hi; omega))
            have HFX := Lib.hid ((hfx.via (Below.refl _ _).drew).only ho (by omega) HGT.out)
            have HC1 := Lib.hid (ho.cell (by have := HWT.out; omega) (keptBelow (Below.refl wr.heap.size wr).drew c1))
            have HB := Lib.hid (ho.below hB.drew (by have := HWT.out; omega))
            clear hmid2 ho nh hnw hfx c1 hB hmid hyy HAD
            go_wp2_with fail
            go_roundw
            case rel => exact ⟨i + 1, by omega, by go_num, HMID.out, HNH.out, HNW.out, HFX.out, HC1.out, HB.out⟩
            case measure => simp [intOf]; omega
          · obtain rfl : m = i := by omega
            rw [HM'.out, midA_all] at hmid
            have hdr := (Below.refl wr.heap.size wr).drew
            have t1 := keptBelow hdr hnw.c1
            have t2 := keptBelow hdr hnw.c2
            have om := owns_below hnw.om hdr
            have orr := owns_below hnw.orr hdr
            have hrows := fun i hi => (hnw.rows i hi).1.via hdr
            have hfx := hfx.via hdr
            have hall := hmid.via hdr
            have nh := nh.via hdr
            have c1 := keptBelow hdr c1
            have hB := hB.drew
            obtain ⟨S0, hS0⟩ : ∃ S0, S0 = wr.drew.heap.size := ⟨_, rfl⟩
            have hqS : q0 + 1 < S0 := by rw [hS0]; exact (Array.getElem?_eq_some_iff.1 nh).1
            obtain ⟨y71, hy71⟩ : ∃ y71, y71 = (k : Int) - n := ⟨_, rfl⟩
            have hwk : IntKind.i64.wrap ((k : Int) - n) = y71 := by rw [hy71, IntKind.wrap_i64]; omega
            have HY71 := Lib.hid hy71
            have hq1 := HQ0.out
            clear hdr hnw hmid hy71 hit hi
            go_wp2_with fail
            go_upto_region 17 with fail
            refine wp_region_K (fun w' => w'.cell? ⟨T, 1, none⟩ = some mv ∧ w'.cell? ⟨T, 2, none⟩ = some rv) 20 (by kernel_rfl) ?_
            generalize wr.drew = wd at *
            refine wpK_take (i := 0) (d := some 62) (v := ?_) rfl rfl (by kernel_rfl) (by kernel_rfl) (by kernel_rfl) (by kernel_rfl) (by kernel_rfl) rfl (fun _ _ _ h => h) (.inl ⟨by rfl, fun w hw => ?_⟩) ⟨t1, t2⟩ ?_
            rotate_left
            · clear hw; go_simp; with_reducible rfl
            try simp only [Act.put, List.setIfInBounds_toArray, List.set_cons_zero, List.set_cons_succ]
            refine wpK_takeP (i := 1) (d := some 63) (v := ?_) rfl (by kernel_rfl) (by kernel_rfl) (by kernel_rfl) (by kernel_rfl) rfl (fun _ _ _ h => h) (.inl ⟨by rfl, fun w hw => ?_⟩) (fun h => ⟨t1, t2⟩) ?_
            rotate_left
            · clear hw; go_simp; with_reducible rfl
            try simp only [Act.put, List.setIfInBounds_toArray, List.set_cons_zero, List.set_cons_succ]
            refine wpK_take (i := 2) (d := some 64) (v := ?_) rfl rfl (by kernel_rfl) (by kernel_rfl) (by kernel_rfl) (by kernel_rfl) (by kernel_rfl) rfl (fun _ _ _ h => h) (.inl ⟨by rfl, fun w hw => ?_⟩) ⟨t1, t2⟩ ?_
            rotate_left
            · clear hw; go_simp; with_reducible rfl
            try simp only [Act.put, List.setIfInBounds_toArray, List.set_cons_zero, List.set_cons_succ]
            refine wpK_take (i := 3) (d := some 65) (v := ?_) rfl rfl (by kernel_rfl) (by kernel_rfl) (by kernel_rfl) (by kernel_rfl) (by kernel_rfl) rfl (fun _ _ _ h => h) (.inl ⟨by rfl, fun w hw => ?_⟩) ⟨t1, t2⟩ ?_
            rotate_left
            · clear hw; go_simp; with_reducible rfl
            try simp only [Act.put, List.setIfInBounds_toArray, List.set_cons_zero, List.set_cons_succ]
            refine wpK_take (i := 4) (d := some 66) (v := ?_) rfl rfl (by kernel_rfl) (by kernel_rfl) (by kernel_rfl) (by kernel_rfl) (by kernel_rfl) rfl (fun _ _ _ h => h) (.inl ⟨by rfl, fun w hw => ?_⟩) ⟨t1, t2⟩ ?_
            rotate_left
            · clear hw; go_simp; with_reducible rfl
            try simp only [Act.put, List.setIfInBounds_toArray, List.set_cons_zero, List.set_cons_succ]
            refine wpK_take (i := 5) (d := some 67) (v := ?_) rfl rfl (by kernel_rfl) (by kernel_rfl) (by kernel_rfl) (by kernel_rfl) (by kernel_rfl) rfl (fun _ _ _ h => h) (.inl ⟨by rfl, fun w hw => ?_⟩) ⟨t1, t2⟩ ?_
            rotate_left
            · (obtain ⟨_, _⟩ := hw); go_simp; with_reducible rfl
            try simp only [Act.put, List.setIfInBounds_toArray, List.set_cons_zero, List.set_cons_succ]
            refine wpK_take (i := 6) (d := some 68) (v := ?_) rfl rfl (by kernel_rfl) (by kernel_rfl) (by kernel_rfl) (by kernel_rfl) (by kernel_rfl) rfl (fun _ _ _ h => h) (.inl ⟨by rfl, fun w hw => ?_⟩) ⟨t1, t2⟩ ?_
            rotate_left
            · clear hw; go_simp; with_reducible rfl
            try simp only [Act.put, List.setIfInBounds_toArray, List.set_cons_zero, List.set_cons_succ]
            refine wpK_take (i := 7) (d := some 69) (v := ?_) rfl rfl (by kernel_rfl) (by kernel_rfl) (by kernel_rfl) (by kernel_rfl) (by kernel_rfl) rfl (fun _ _ _ h => h) (.inl ⟨by rfl, fun w hw => ?_⟩) ⟨t1, t2⟩ ?_
            rotate_left
            · clear hw; go_simp; with_reducible rfl
            try simp only [Act.put, List.setIfInBounds_toArray, List.set_cons_zero, List.set_cons_succ]
            refine wpK_take (i := 8) (d := some 70) (v := ?_) rfl rfl (by kernel_rfl) (by kernel_rfl) (by kernel_rfl) (by kernel_rfl) (by kernel_rfl) rfl (fun _ _ _ h => h) (.inl ⟨by rfl, fun w hw => ?_⟩) ⟨t1, t2⟩ ?_
            rotate_left
            · clear hw; go_simp; with_reducible rfl
            try simp only [Act.put, List.setIfInBounds_toArray, List.set_cons_zero, List.set_cons_succ]
            refine wpK_takeP (i := 11) (d := some 73) (v := ?_) rfl (by kernel_rfl) (by kernel_rfl) (by kernel_rfl) (by kernel_rfl) rfl (fun _ _ _ h => h) (.inl ⟨by rfl, fun w hw => ?_⟩) (fun h => ⟨t1, t2⟩) ?_
            rotate_left
            · clear hw; go_simp; with_reducible rfl
            try simp only [Act.put, List.setIfInBounds_toArray, List.set_cons_zero, List.set_cons_succ]
            refine wpK_takeP (i := 12) (d := some 74) (v := ?_) rfl (by kernel_rfl) (by kernel_rfl) (by kernel_rfl) (by kernel_rfl) rfl (fun _ _ _ h => h) (.inl ⟨by rfl, fun w hw => ?_⟩) (fun h => ⟨t1, t2⟩) ?_
            rotate_left
            · clear hw; go_simp; with_reducible rfl
            try simp only [Act.put, List.setIfInBounds_toArray, List.set_cons_zero, List.set_cons_succ]
            refine wpK_takeP (i := 13) (d := some 75) (v := ?_) rfl (by kernel_rfl) (by kernel_rfl) (by kernel_rfl) (by kernel_rfl) rfl (fun _ _ _ h => h) (.inl ⟨by rfl, fun w hw => ?_⟩) (fun h => ⟨t1, t2⟩) ?_
            rotate_left
            · clear hw; go_simp; with_reducible rfl
            try simp only [Act.put, List.setIfInBounds_toArray, List.set_cons_zero, List.set_cons_succ]
            refine wpK_take (i := 14) (d := some 76) (v := ?_) rfl rfl (by kernel_rfl) (by kernel_rfl) (by kernel_rfl) (by kernel_rfl) (by kernel_rfl) rfl (fun _ _ _ h => h) (.inl ⟨by rfl, fun w hw => ?_⟩) ⟨t1, t2⟩ ?_
            rotate_left
            · (obtain ⟨_, _⟩ := hw); go_simp; with_reducible rfl
            try simp only [Act.put, List.setIfInBounds_toArray, List.set_cons_zero, List.set_cons_succ]
            refine wpK_takeP (i := 15) (d := some 77) (v := ?_) rfl (by kernel_rfl) (by kernel_rfl) (by kernel_rfl) (by kernel_rfl) rfl (fun _ _ _ h => h) (.inl ⟨by rfl, fun w hw => ?_⟩) (fun h => ⟨t1, t2⟩) ?_
            rotate_left
            · clear hw; go_simp; with_reducible rfl
            try simp only [Act.put, List.setIfInBounds_toArray, List.set_cons_zero, List.set_cons_succ]
            refine wpK_two (i := 9) (j := 16) (by kernel_rfl) ?_ ?_
            · refine wpOp_one (i := 9) rfl rfl ?_
              go_simp
              have hBx := alloc_belowL wd (.cells #[.int .i64 y71] 3)
              have t1 := keptBelow hBx t1
              have t2 := keptBelow hBx t2
              have om := owns_below om hBx
              have orr := owns_below orr hBx
              have hrows := fun i hi => (hrows i hi).via hBx
              have hfx := hfx.via hBx
              have hall := hall.via hBx
              have nh := nh.via hBx
              have c1 := keptBelow hBx c1
              have hB := belowVia hBx hB
              have hsx := hBx.size
              have hsy : wd.heap.size < (wd.alloc (.cells #[.int .i64 y71] 3)).heap.size := by have := alloc_sizeL wd (.cells #[.int .i64 y71] 3); omega
              have n71 : (wd.alloc (.cells #[.int .i64 y71] 3)).cell? ⟨wd.heap.size, 0, none⟩ = some (.int .i64 y71) := (cell_of_row _ _ 0 _ _ _ (heap_alloc_new wd (.cells #[.int .i64 y71] 3))).trans rfl
              have hp71b : S0 ≤ wd.heap.size := by omega
              generalize hp71 : wd.heap.size = p71 at *
              generalize wd.alloc (.cells #[.int .i64 y71] 3) = wa at *
              clear hBx
              refine ⟨⟨t1, t2⟩, ?_⟩
              try simp only [Act.put, List.setIfInBounds_toArray, List.set_cons_zero, List.set_cons_succ]
              refine wpK_two (i := 10) (j := 16) (by kernel_rfl) ?_ ?_
              · have hsz72 : S0 ≤ wa.heap.size := by omega
                refine wpOp_append (i := 10) (dt := 72) rfl rfl rfl _ _ _ rfl (T + 1 + 1) 3 j0 (.int .i64 0) 1 8 Tryz.underlying22 HJ0.out HY0.out HY1.out HY2.out rfl (by decide) mv k (intsV ((List.range k).map (startM n))) rfl om ⟨p71, 0, none⟩ 1 1 [.int .i64 y71] rfl rfl (news_of_cell n71) (one_intC _) (by decide) (by unfold maxLen; omega) (by omega) (by omega) ?_
                intro gm cm wb om2 hgr hat72 hlt72
                have t1 := kept_own hgr t1 (fun p e => by have := HOM.out p e; omega)
                have t2 := kept_own hgr t2 (fun p e => by have := HOM.out p e; omega)
                have hrows := fun i hi => kept_num hgr (hrows i hi) (fun p e => HD.out.1 i hi p e)
                have hfx := hfx.grown hgr (fun p e => by have := HOM.out p e; omega) HGT.out
                have hall := kept_num hgr hall (fun p e => by have := HOM.out p e; omega)
                have nh := kept_num hgr nh (fun p e => by have := HOM.out p e; omega)
                have c1 := kept_own hgr c1 (fun p e => by have := HOM.out p e; have := HWT.out; omega)
                have hB := hB.grown hgr hB.size (fun p e => by have := HOM.out p e; have := HWT.out; omega)
                have hsx := hgr.size
                have orr := owns_grown orr hgr (fun g g' e1 e2 => fun e => HD.out.2.2 g' g e2 e1 e.symm)
                generalize hh72 : wa.heap.size = h72 at *
                clear hgr om
                refine ⟨(fun _ => ⟨t1, t2⟩), ?_⟩
                try simp only [Act.put, List.setIfInBounds_toArray, List.set_cons_zero, List.set_cons_succ]
                refine wpK_one (i := 16) (by kernel_rfl) rfl rfl ?_
                go_simp
                have hBx := alloc_belowL wb (.cells #[.slice (some ⟨q0 + 1, 0, none⟩) m m] 77)
                have t1 := keptBelow hBx t1
                have t2 := keptBelow hBx t2
                have om2 := owns_below om2 hBx
                have orr := owns_below orr hBx
                have hrows := fun i hi => (hrows i hi).via hBx
                have hfx := hfx.via hBx
                have hall := hall.via hBx
                have nh := nh.via hBx
                have c1 := keptBelow hBx c1
                have hB := belowVia hBx hB
                have hsx := hBx.size
                have hsy : wb.heap.size < (wb.alloc (.cells #[.slice (some ⟨q0 + 1, 0, none⟩) m m] 77)).heap.size := by have := alloc_sizeL wb (.cells #[.slice (some ⟨q0 + 1, 0, none⟩) m m] 77); omega
                have n78 : (wb.alloc (.cells #[.slice (some ⟨q0 + 1, 0, none⟩) m m] 77)).cell? ⟨wb.heap.size, 0, none⟩ = some (.slice (some ⟨q0 + 1, 0, none⟩) m m) := (cell_of_row _ _ 0 _ _ _ (heap_alloc_new wb (.cells #[.slice (some ⟨q0 + 1, 0, none⟩) m m] 77))).trans rfl
                have hp78b : S0 ≤ wb.heap.size := by omega
                generalize hp78 : wb.heap.size = p78 at *
                generalize wb.alloc (.cells #[.slice (some ⟨q0 + 1, 0, none⟩) m m] 77) = wc at *
                clear hBx
                refine ⟨⟨t1, t2⟩, ?_⟩
                try simp only [Act.put, List.setIfInBounds_toArray, List.set_cons_zero, List.set_cons_succ]
                have hsz79 : gm < wc.heap.size := by omega
                have hsz79b : S0 ≤ wc.heap.size := by omega
                refine wpK_append (i := 17) (dt := 79) (by kernel_rfl) rfl rfl rfl _ _ _ rfl (T + 1 + 1) 77 l0 (.slice none 0 0) 1 24 Tryz.underlying101 HL0.out HX0.out HX1.out HX2.out rfl (by decide) rv k ((List.range k).map (rowV n rb)) rfl orr ⟨p78, 0, none⟩ 1 1 [.slice (some ⟨q0 + 1, 0, none⟩) m m] rfl rfl (news_of_cell n78) (one_slc _ _ _) (by decide) (by unfold maxLen; omega) (by omega) (by omega) ?_
                intro gr cr we orr2 hgr hat79 hlt79
                have t1 := kept_own hgr t1 (fun p e => by have := HOR.out p e; omega)
                have t2 := kept_own hgr t2 (fun p e => by have := HOR.out p e; omega)
                have hrows := fun i hi => kept_num hgr (hrows i hi) (fun p e => HD.out.2.1 i hi p e)
                have hfx := hfx.grown hgr (fun p e => by have := HOR.out p e; omega) HGT.out
                have hall := kept_num hgr hall (fun p e => by have := HOR.out p e; omega)
                have nh := kept_num hgr nh (fun p e => by have := HOR.out p e; omega)
                have c1 := kept_own hgr c1 (fun p e => by have := HOR.out p e; have := HWT.out; omega)
                have hB := hB.grown hgr hB.size (fun p e => by have := HOR.out p e; have := HWT.out; omega)
                have hsx := hgr.size
                have om2 := owns_grown om2 hgr (fun g g' e1 e2 => by have e1 : some gm = some g := e1; cases e1; have h2 := HOR.out g' e2; rcases hat72 with e3 | e3; exact HD.out.2.2 gm g' e3 e2; omega)
                generalize hh79 : wc.heap.size = h79 at *
                clear hgr orr
                refine ⟨(fun _ => ⟨t1, t2⟩), ?_⟩
                try simp only [Act.put, List.setIfInBounds_toArray, List.set_cons_zero, List.set_cons_succ]
                refine wpK_takeP (i := 18) (d := some 80) (v := ?_) rfl (by kernel_rfl) (by kernel_rfl) (by kernel_rfl) (by kernel_rfl) rfl (fun _ _ _ h => h) (.inl ⟨by rfl, fun w hw => ?_⟩) (fun h => ⟨t1, t2⟩) ?_
                rotate_left
                · clear hw; go_simp; with_reducible rfl
                try simp only [Act.put, List.setIfInBounds_toArray, List.set_cons_zero, List.set_cons_succ]
                refine wpK_take (i := 19) (d := some 81) (v := ?_) rfl rfl (by kernel_rfl) (by kernel_rfl) (by kernel_rfl) (by kernel_rfl) (by kernel_rfl) rfl (fun _ _ _ h => h) (.inl ⟨by rfl, fun w hw => ?_⟩) ⟨t1, t2⟩ ?_
                rotate_left
                · clear hw; go_simp; with_reducible rfl
                try simp only [Act.put, List.setIfInBounds_toArray, List.set_cons_zero, List.set_cons_succ]
                refine wpK_set (i := 20) (by kernel_rfl) rfl rfl rfl _ _ _ rfl T 1 (.slice (some ⟨gm, 0, none⟩) (k + 1) cm) rfl rfl rfl (by rw [t1]; rfl) (hfx.fz 1) (by kernel_rfl) rfl ?_
                refine ⟨(fun h => absurd h (by intro h; have h : true = false := h; cases h)), ?_⟩
                try simp only [Act.put, List.setIfInBounds_toArray, List.set_cons_zero, List.set_cons_succ]
                refine wpK_takeP (i := 21) (d := some 82) (v := ?_) rfl (by kernel_rfl) (by kernel_rfl) (by kernel_rfl) (by kernel_rfl) rfl (fun _ _ _ h => h) (.inl ⟨by rfl, fun w hw => ?_⟩) (fun h => absurd h (by intro h; have h : true = false := h; cases h)) ?_
                rotate_left
                · clear hw; go_simp; with_reducible rfl
                try simp only [Act.put, List.setIfInBounds_toArray, List.set_cons_zero, List.set_cons_succ]
                refine wpK_takeP (i := 22) (d := some 83) (v := ?_) rfl (by kernel_rfl) (by kernel_rfl) (by kernel_rfl) (by kernel_rfl) rfl (fun _ _ _ h => h) (.inl ⟨by rfl, fun w hw => ?_⟩) (fun h => absurd h (by intro h; have h : true = false := h; cases h)) ?_
                rotate_left
                · clear hw; go_simp; with_reducible rfl
                try simp only [Act.put, List.setIfInBounds_toArray, List.set_cons_zero, List.set_cons_succ]
                have t2x : (we.setCell ⟨T, 1, none⟩ (.slice (some ⟨gm, 0, none⟩) (k + 1) cm)).cell? ⟨T, 2, none⟩ = some rv := (World.cell?_setCell_other _ _ _ _ (by intro e; have := congrArg Addr.off e; dsimp only at this; omega)).trans t2
                refine wpK_store1 (i := 23) (by kernel_rfl) rfl rfl rfl (by kernel_rfl) (by kernel_rfl) _ _ _ rfl T 2 (.slice (some ⟨gr, 0, none⟩) (k + 1) cr) rfl rfl rfl (by rw [t2x]; rfl) (by rw [World.frozen?_setCell]; exact hfx.fz 2) (by kernel_rfl) rfl ?_
                have hdist := new_dist (gm := gm) (gr := gr) HD.out HOM.out HOR.out HRB.out hat72 hat79 (by omega) (by omega) (by omega) (by omega) (by omega)
                have HNEW := Lib.hid (new_next (w := we) (gm := gm) (gr := gr) (mv' := .slice (some ⟨gm, 0, none⟩) (k + 1) cm) (rv' := .slice (some ⟨gr, 0, none⟩) (k + 1) cr) t1 t2 (by rw [HY71.out] at om2; exact om2) (by rw [HM'.out] at orr2; exact orr2) hrows HRB.out nh (by omega) (by omega) HINJ.out rfl rfl hdist (by have := own_lt om2 gm rfl; omega) (by have := own_lt orr2 gr rfl; omega))
                have HFXN := Lib.hid ((hfx.set (v := .slice (some ⟨gm, 0, none⟩) (k + 1) cm) (.inl rfl) HGT.out).set (v := .slice (some ⟨gr, 0, none⟩) (k + 1) cr) (.inr rfl) HGT.out)
                have HALLN : Hid (NumB (T + 1) (rowL (allTo n (sysB s) (k + 1))) ((we.setCell ⟨T, 1, none⟩ (.slice (some ⟨gm, 0, none⟩) (k + 1) cm)).setCell ⟨T, 2, none⟩ (.slice (some ⟨gr, 0, none⟩) (k + 1) cr))) := Lib.hid ((hall.other (by omega)).other (by omega))
                have HC1N := Lib.hid ((World.cell?_setCell_other (we.setCell ⟨T, 1, none⟩ (.slice (some ⟨gm, 0, none⟩) (k + 1) cm)) ⟨T, 2, none⟩ ⟨W.heap.size, 1, none⟩ (.slice (some ⟨gr, 0, none⟩) (k + 1) cr) (by intro e; have := congrArg Addr.block e; dsimp only at this; have := HWT.out; omega)).trans ((World.cell?_setCell_other we ⟨T, 1, none⟩ ⟨W.heap.size, 1, none⟩ (.slice (some ⟨gm, 0, none⟩) (k + 1) cm) (by intro e; have := congrArg Addr.block e; dsimp only at this; have := HWT.out; omega)).trans c1))
                have HBN := Lib.hid ((hB.setCell (p := ⟨T, 1, none⟩) (Nat.le_of_lt HWT.out) (.slice (some ⟨gm, 0, none⟩) (k + 1) cm)).setCell (p := ⟨T, 2, none⟩) (Nat.le_of_lt HWT.out) (.slice (some ⟨gr, 0, none⟩) (k + 1) cr))
                generalize (we.setCell ⟨T, 1, none⟩ (.slice (some ⟨gm, 0, none⟩) (k + 1) cm)).setCell ⟨T, 2, none⟩ (.slice (some ⟨gr, 0, none⟩) (k + 1) cr) = wz at *
                clear t1 t2 t2x hfx hall nh c1 hB hrows om2 orr2 hdist n78
                go_wp2_with fail
                go_roundw
                case rel => exact ⟨k + 1, by omega, by go_num, ⟨_, _, _, HNEW.out⟩, HFXN.out, HALLN.out, HC1N.out, HBN.out⟩
                case measure => simp [intOf]; omega
              · refine wpOp_one (i := 16) rfl rfl ?_
                go_simp
                have hBx := alloc_belowL wa (.cells #[.slice (some ⟨q0 + 1, 0, none⟩) m m] 77)
                have t1 := keptBelow hBx t1
                have t2 := keptBelow hBx t2
                have om := owns_below om hBx
                have orr := owns_below orr hBx
                have hrows := fun i hi => (hrows i hi).via hBx
                have hfx := hfx.via hBx
                have hall := hall.via hBx
                have nh := nh.via hBx
                have c1 := keptBelow hBx c1
                have hB := belowVia hBx hB
                have hsx := hBx.size
                have hsy : wa.heap.size < (wa.alloc (.cells #[.slice (some ⟨q0 + 1, 0, none⟩) m m] 77)).heap.size := by have := alloc_sizeL wa (.cells #[.slice (some ⟨q0 + 1, 0, none⟩) m m] 77); omega
                have n78 : (wa.alloc (.cells #[.slice (some ⟨q0 + 1, 0, none⟩) m m] 77)).cell? ⟨wa.heap.size, 0, none⟩ = some (.slice (some ⟨q0 + 1, 0, none⟩) m m) := (cell_of_row _ _ 0 _ _ _ (heap_alloc_new wa (.cells #[.slice (some ⟨q0 + 1, 0, none⟩) m m] 77))).trans rfl
                have n71 := keptBelow hBx n71
                have hp78b : S0 ≤ wa.heap.size := by omega
                generalize hp78 : wa.heap.size = p78 at *
                generalize wa.alloc (.cells #[.slice (some ⟨q0 + 1, 0, none⟩) m m] 77) = wb at *
                clear hBx
                refine ⟨⟨t1, t2⟩, ?_⟩
                try simp only [Act.put, List.setIfInBounds_toArray, List.set_cons_zero, List.set_cons_succ]
                have hsz72 : S0 ≤ wb.heap.size := by omega
                refine wpK_append (i := 10) (dt := 72) (by kernel_rfl) rfl rfl rfl _ _ _ rfl (T + 1 + 1) 3 j0 (.int .i64 0) 1 8 Tryz.underlying22 HJ0.out HY0.out HY1.out HY2.out rfl (by decide) mv k (intsV ((List.range k).map (startM n))) rfl om ⟨p71, 0, none⟩ 1 1 [.int .i64 y71] rfl rfl (news_of_cell n71) (one_intC _) (by decide) (by unfold maxLen; omega) (by omega) (by omega) ?_
                intro gm cm wc om2 hgr hat72 hlt72
                have t1 := kept_own hgr t1 (fun p e => by have := HOM.out p e; omega)
                have t2 := kept_own hgr t2 (fun p e => by have := HOM.out p e; omega)
                have hrows := fun i hi => kept_num hgr (hrows i hi) (fun p e => HD.out.1 i hi p e)
                have hfx := hfx.grown hgr (fun p e => by have := HOM.out p e; omega) HGT.out
                have hall := kept_num hgr hall (fun p e => by have := HOM.out p e; omega)
                have nh := kept_num hgr nh (fun p e => by have := HOM.out p e; omega)
                have c1 := kept_own hgr c1 (fun p e => by have := HOM.out p e; have := HWT.out; omega)
                have hB := hB.grown hgr hB.size (fun p e => by have := HOM.out p e; have := HWT.out; omega)
                have hsx := hgr.size
                have orr := owns_grown orr hgr (fun g g' e1 e2 => fun e => HD.out.2.2 g' g e2 e1 e.symm)
                have n78 := kept_own hgr n78 (fun p e => by have := HOM.out p e; omega)
                generalize hh72 : wb.heap.size = h72 at *
                clear hgr om
                refine ⟨(fun _ => ⟨t1, t2⟩), ?_⟩
                try simp only [Act.put, List.setIfInBounds_toArray, List.set_cons_zero, List.set_cons_succ]
                have hsz79 : gm < wc.heap.size := by omega
                have hsz79b : S0 ≤ wc.heap.size := by omega
                refine wpK_append (i := 17) (dt := 79) (by kernel_rfl) rfl rfl rfl _ _ _ rfl (T + 1 + 1) 77 l0 (.slice none 0 0) 1 24 Tryz.underlying101 HL0.out HX0.out HX1.out HX2.out rfl (by decide) rv k ((List.range k).map (rowV n rb)) rfl orr ⟨p78, 0, none⟩ 1 1 [.slice (some ⟨q0 + 1, 0, none⟩) m m] rfl rfl (news_of_cell n78) (one_slc _ _ _) (by decide) (by unfold maxLen; omega) (by omega) (by omega) ?_
                intro gr cr we orr2 hgr hat79 hlt79
                have t1 := kept_own hgr t1 (fun p e => by have := HOR.out p e; omega)
                have t2 := kept_own hgr t2 (fun p e => by have := HOR.out p e; omega)
                have hrows := fun i hi => kept_num hgr (hrows i hi) (fun p e => HD.out.2.1 i hi p e)
                have hfx := hfx.grown hgr (fun p e => by have := HOR.out p e; omega) HGT.out
                have hall := kept_num hgr hall (fun p e => by have := HOR.out p e; omega)
                have nh := kept_num hgr nh (fun p e => by have := HOR.out p e; omega)
                have c1 := kept_own hgr c1 (fun p e => by have := HOR.out p e; have := HWT.out; omega)
                have hB := hB.grown hgr hB.size (fun p e => by have := HOR.out p e; have := HWT.out; omega)
                have hsx := hgr.size
                have om2 := owns_grown om2 hgr (fun g g' e1 e2 => by have e1 : some gm = some g := e1; cases e1; have h2 := HOR.out g' e2; rcases hat72 with e3 | e3; exact HD.out.2.2 gm g' e3 e2; omega)
                generalize hh79 : wc.heap.size = h79 at *
                clear hgr orr
                refine ⟨(fun _ => ⟨t1, t2⟩), ?_⟩
                try simp only [Act.put, List.setIfInBounds_toArray, List.set_cons_zero, List.set_cons_succ]
                refine wpK_takeP (i := 18) (d := some 80) (v := ?_) rfl (by kernel_rfl) (by kernel_rfl) (by kernel_rfl) (by kernel_rfl) rfl (fun _ _ _ h => h) (.inl ⟨by rfl, fun w hw => ?_⟩) (fun h => ⟨t1, t2⟩) ?_
                rotate_left
                · clear hw; go_simp; with_reducible rfl
                try simp only [Act.put, List.setIfInBounds_toArray, List.set_cons_zero, List.set_cons_succ]
                refine wpK_take (i := 19) (d := some 81) (v := ?_) rfl rfl (by kernel_rfl) (by kernel_rfl) (by kernel_rfl) (by kernel_rfl) (by kernel_rfl) rfl (fun _ _ _ h => h) (.inl ⟨by rfl, fun w hw => ?_⟩) ⟨t1, t2⟩ ?_
                rotate_left
                · clear hw; go_simp; with_reducible rfl
                try simp only [Act.put, List.setIfInBounds_toArray, List.set_cons_zero, List.set_cons_succ]
                refine wpK_set (i := 20) (by kernel_rfl) rfl rfl rfl _ _ _ rfl T 1 (.slice (some ⟨gm, 0, none⟩) (k + 1) cm) rfl rfl rfl (by rw [t1]; rfl) (hfx.fz 1) (by kernel_rfl) rfl ?_
                refine ⟨(fun h => absurd h (by intro h; have h : true = false := h; cases h)), ?_⟩
                try simp only [Act.put, List.setIfInBounds_toArray, List.set_cons_zero, List.set_cons_succ]
                refine wpK_takeP (i := 21) (d := some 82) (v := ?_) rfl (by kernel_rfl) (by kernel_rfl) (by kernel_rfl) (by kernel_rfl) rfl (fun _ _ _ h => h) (.inl ⟨by rfl, fun w hw => ?_⟩) (fun h => absurd h (by intro h; have h : true = false := h; cases h)) ?_
                rotate_left
                · clear hw; go_simp; with_reducible rfl
                try simp only [Act.put, List.setIfInBounds_toArray, List.set_cons_zero, List.set_cons_succ]
                refine wpK_takeP (i := 22) (d := some 83) (v := ?_) rfl (by kernel_rfl) (by kernel_rfl) (by kernel_rfl) (by kernel_rfl) rfl (fun _ _ _ h => h) (.inl ⟨by rfl, fun w hw => ?_⟩) (fun h => absurd h (by intro h; have h : true = false := h; cases h)) ?_
                rotate_left
                · clear hw; go_simp; with_reducible rfl
                try simp only [Act.put, List.setIfInBounds_toArray, List.set_cons_zero, List.set_cons_succ]
                have t2x : (we.setCell ⟨T, 1, none⟩ (.slice (some ⟨gm, 0, none⟩) (k + 1) cm)).cell? ⟨T, 2, none⟩ = some rv := (World.cell?_setCell_other _ _ _ _ (by intro e; have := congrArg Addr.off e; dsimp only at this; omega)).trans t2
                refine wpK_store1 (i := 23) (by kernel_rfl) rfl rfl rfl (by kernel_rfl) (by kernel_rfl) _ _ _ rfl T 2 (.slice (some ⟨gr, 0, none⟩) (k + 1) cr) rfl rfl rfl (by rw [t2x]; rfl) (by rw [World.frozen?_setCell]; exact hfx.fz 2) (by kernel_rfl) rfl ?_
                have hdist := new_dist (gm := gm) (gr := gr) HD.out HOM.out HOR.out HRB.out hat72 hat79 (by omega) (by omega) (by omega) (by omega) (by omega)
                have HNEW := Lib.hid (new_next (w := we) (gm := gm) (gr := gr) (mv' := .slice (some ⟨gm, 0, none⟩) (k + 1) cm) (rv' := .slice (some ⟨gr, 0, none⟩) (k + 1) cr) t1 t2 (by rw [HY71.out] at om2; exact om2) (by rw [HM'.out] at orr2; exact orr2) hrows HRB.out nh (by omega) (by omega) HINJ.out rfl rfl hdist (by have := own_lt om2 gm rfl; omega) (by have := own_lt orr2 gr rfl; omega))
                have HFXN := Lib.hid ((hfx.set (v := .slice (some ⟨gm, 0, none⟩) (k + 1) cm) (.inl rfl) HGT.out).set (v := .slice (some ⟨gr, 0, none⟩) (k + 1) cr) (.inr rfl) HGT.out)
                have HALLN : Hid (NumB (T + 1) (rowL (allTo n (sysB s) (k + 1))) ((we.setCell ⟨T, 1, none⟩ (.slice (some ⟨gm, 0, none⟩) (k + 1) cm)).setCell ⟨T, 2, none⟩ (.slice (some ⟨gr, 0, none⟩) (k + 1) cr))) := Lib.hid ((hall.other (by omega)).other (by omega))
                have HC1N := Lib.hid ((World.cell?_setCell_other (we.setCell ⟨T, 1, none⟩ (.slice (some ⟨gm, 0, none⟩) (k + 1) cm)) ⟨T, 2, none⟩ ⟨W.heap.size, 1, none⟩ (.slice (some ⟨gr, 0, none⟩) (k + 1) cr) (by intro e; have := congrArg Addr.block e; dsimp only at this; have := HWT.out; omega)).trans ((World.cell?_setCell_other we ⟨T, 1, none⟩ ⟨W.heap.size, 1, none⟩ (.slice (some ⟨gm, 0, none⟩) (k + 1) cm) (by intro e; have := congrArg Addr.block e; dsimp only at this; have := HWT.out; omega)).trans c1))
                have HBN := Lib.hid ((hB.setCell (p := ⟨T, 1, none⟩) (Nat.le_of_lt HWT.out) (.slice (some ⟨gm, 0, none⟩) (k + 1) cm)).setCell (p := ⟨T, 2, none⟩) (Nat.le_of_lt HWT.out) (.slice (some ⟨gr, 0, none⟩) (k + 1) cr))
                generalize (we.setCell ⟨T, 1, none⟩ (.slice (some ⟨gm, 0, none⟩) (k + 1) cm)).setCell ⟨T, 2, none⟩ (.slice (some ⟨gr, 0, none⟩) (k + 1) cr) = wz at *
                clear t1 t2 t2x hfx hall nh c1 hB hrows om2 orr2 hdist n78
                go_wp2_with fail
                go_roundw
                case rel => exact ⟨k + 1, by omega, by go_num, ⟨_, _, _, HNEW.out⟩, HFXN.out, HALLN.out, HC1N.out, HBN.out⟩
                case measure => simp [intOf]; omega
            · refine wpOp_one (i := 16) rfl rfl ?_
              go_simp
              have hBx := alloc_belowL wd (.cells #[.slice (some ⟨q0 + 1, 0, none⟩) m m] 77)
              have t1 := keptBelow hBx t1
              have t2 := keptBelow hBx t2
              have om := owns_below om hBx
              have orr := owns_below orr hBx
              have hrows := fun i hi => (hrows i hi).via hBx
              have hfx := hfx.via hBx
              have hall := hall.via hBx
              have nh := nh.via hBx
              have c1 := keptBelow hBx c1
              have hB := belowVia hBx hB
              have hsx := hBx.size
              have hsy : wd.heap.size < (wd.alloc (.cells #[.slice (some ⟨q0 + 1, 0, none⟩) m m] 77)).heap.size := by have := alloc_sizeL wd (.cells #[.slice (some ⟨q0 + 1, 0, none⟩) m m] 77); omega
              have n78 : (wd.alloc (.cells #[.slice (some ⟨q0 + 1, 0, none⟩) m m] 77)).cell? ⟨wd.heap.size, 0, none⟩ = some (.slice (some ⟨q0 + 1, 0, none⟩) m m) := (cell_of_row _ _ 0 _ _ _ (heap_alloc_new wd (.cells #[.slice (some ⟨q0 + 1, 0, none⟩) m m] 77))).trans rfl
              have hp78b : S0 ≤ wd.heap.size := by omega
              generalize hp78 : wd.heap.size = p78 at *
              generalize wd.alloc (.cells #[.slice (some ⟨q0 + 1, 0, none⟩) m m] 77) = wa at *
              clear hBx
              refine ⟨⟨t1, t2⟩, ?_⟩
              try simp only [Act.put, List.setIfInBounds_toArray, List.set_cons_zero, List.set_cons_succ]
              refine wpK_one (i := 9) (by kernel_rfl) rfl rfl ?_
              go_simp
              have hBx := alloc_belowL wa (.cells #[.int .i64 y71] 3)
              have t1 := keptBelow hBx t1
              have t2 := keptBelow hBx t2
              have om := owns_below om hBx
              have orr := owns_below orr hBx
              have hrows := fun i hi => (hrows i hi).via hBx
              have hfx := hfx.via hBx
              have hall := hall.via hBx
              have nh := nh.via hBx
              have c1 := keptBelow hBx c1
              have hB := belowVia hBx hB
              have hsx := hBx.size
              have hsy : wa.heap.size < (wa.alloc (.cells #[.int .i64 y71] 3)).heap.size := by have := alloc_sizeL wa (.cells #[.int .i64 y71] 3); omega
              have n71 : (wa.alloc (.cells #[.int .i64 y71] 3)).cell? ⟨wa.heap.size, 0, none⟩ = some (.int .i64 y71) := (cell_of_row _ _ 0 _ _ _ (heap_alloc_new wa (.cells #[.int .i64 y71] 3))).trans rfl
              have n78 := keptBelow hBx n78
              have hp71b : S0 ≤ wa.heap.size := by omega
              generalize hp71 : wa.heap.size = p71 at *
              generalize wa.alloc (.cells #[.int .i64 y71] 3) = wb at *
              clear hBx
              refine ⟨⟨t1, t2⟩, ?_⟩
              try simp only [Act.put, List.setIfInBounds_toArray, List.set_cons_zero, List.set_cons_succ]
              have hsz72 : S0 ≤ wb.heap.size := by omega
              refine wpK_append (i := 10) (dt := 72) (by kernel_rfl) rfl rfl rfl _ _ _ rfl (T + 1 + 1) 3 j0 (.int .i64 0) 1 8 Tryz.underlying22 HJ0.out HY0.out HY1.out HY2.out rfl (by decide) mv k (intsV ((List.range k).map (startM n))) rfl om ⟨p71, 0, none⟩ 1 1 [.int .i64 y71] rfl rfl (news_of_cell n71) (one_intC _) (by decide) (by unfold maxLen; omega) (by omega) (by omega) ?_
              intro gm cm wc om2 hgr hat72 hlt72
              have t1 := kept_own hgr t1 (fun p e => by have := HOM.out p e; omega)
              have t2 := kept_own hgr t2 (fun p e => by have := HOM.out p e; omega)
              have hrows := fun i hi => kept_num hgr (hrows i hi) (fun p e => HD.out.1 i hi p e)
              have hfx := hfx.grown hgr (fun p e => by have := HOM.out p e; omega) HGT.out
              have hall := kept_num hgr hall (fun p e => by have := HOM.out p e; omega)
              have nh := kept_num hgr nh (fun p e => by have := HOM.out p e; omega)
              have c1 := kept_own hgr c1 (fun p e => by have := HOM.out p e; have := HWT.out; omega)
              have hB := hB.grown hgr hB.size (fun p e => by have := HOM.out p e; have := HWT.out; omega)
              have hsx := hgr.size
              have orr := owns_grown orr hgr (fun g g' e1 e2 => fun e => HD.out.2.2 g' g e2 e1 e.symm)
              have n78 := kept_own hgr n78 (fun p e => by have := HOM.out p e; omega)
              generalize hh72 : wb.heap.size = h72 at *
              clear hgr om
              refine ⟨(fun _ => ⟨t1, t2⟩), ?_⟩
              try simp only [Act.put, List.setIfInBounds_toArray, List.set_cons_zero, List.set_cons_succ]
              have hsz79 : gm < wc.heap.size := by omega
              have hsz79b : S0 ≤ wc.heap.size := by omega
              refine wpK_append (i := 17) (dt := 79) (by kernel_rfl) rfl rfl rfl _ _ _ rfl (T + 1 + 1) 77 l0 (.slice none 0 0) 1 24 Tryz.underlying101 HL0.out HX0.out HX1.out HX2.out rfl (by decide) rv k ((List.range k).map (rowV n rb)) rfl orr ⟨p78, 0, none⟩ 1 1 [.slice (some ⟨q0 + 1, 0, none⟩) m m] rfl rfl (news_of_cell n78) (one_slc _ _ _) (by decide) (by unfold maxLen; omega) (by omega) (by omega) ?_
              intro gr cr we orr2 hgr hat79 hlt79
              have t1 := kept_own hgr t1 (fun p e => by have := HOR.out p e; omega)
              have t2 := kept_own hgr t2 (fun p e => by have := HOR.out p e; omega)
              have hrows := fun i hi => kept_num hgr (hrows i hi) (fun p e => HD.out.2.1 i hi p e)
              have hfx := hfx.grown hgr (fun p e => by have := HOR.out p e; omega) HGT.out
              have hall := kept_num hgr hall (fun p e => by have := HOR.out p e; omega)
              have nh := kept_num hgr nh (fun p e => by have := HOR.out p e; omega)
              have c1 := kept_own hgr c1 (fun p e => by have := HOR.out p e; have := HWT.out; omega)
              have hB := hB.grown hgr hB.size (fun p e => by have := HOR.out p e; have := HWT.out; omega)
              have hsx := hgr.size
              have om2 := owns_grown om2 hgr (fun g g' e1 e2 => by have e1 : some gm = some g := e1; cases e1; have h2 := HOR.out g' e2; rcases hat72 with e3 | e3; exact HD.out.2.2 gm g' e3 e2; omega)
              generalize hh79 : wc.heap.size = h79 at *
              clear hgr orr
              refine ⟨(fun _ => ⟨t1, t2⟩), ?_⟩
              try simp only [Act.put, List.setIfInBounds_toArray, List.set_cons_zero, List.set_cons_succ]
              refine wpK_takeP (i := 18) (d := some 80) (v := ?_) rfl (by kernel_rfl) (by kernel_rfl) (by kernel_rfl) (by kernel_rfl) rfl (fun _ _ _ h => h) (.inl ⟨by rfl, fun w hw => ?_⟩) (fun h => ⟨t1, t2⟩) ?_
              rotate_left
              · clear hw; go_simp; with_reducible rfl
              try simp only [Act.put, List.setIfInBounds_toArray, List.set_cons_zero, List.set_cons_succ]
              refine wpK_take (i := 19) (d := some 81) (v := ?_) rfl rfl (by kernel_rfl) (by kernel_rfl) (by kernel_rfl) (by kernel_rfl) (by kernel_rfl) rfl (fun _ _ _ h => h) (.inl ⟨by rfl, fun w hw => ?_⟩) ⟨t1, t2⟩ ?_
              rotate_left
              · clear hw; go_simp; with_reducible rfl
              try simp only [Act.put, List.setIfInBounds_toArray, List.set_cons_zero, List.set_cons_succ]
              refine wpK_set (i := 20) (by kernel_rfl) rfl rfl rfl _ _ _ rfl T 1 (.slice (some ⟨gm, 0, none⟩) (k + 1) cm) rfl rfl rfl (by rw [t1]; rfl) (hfx.fz 1) (by kernel_rfl) rfl ?_
              refine ⟨(fun h => absurd h (by intro h; have h : true = false := h; cases h)), ?_⟩
              try simp only [Act.put, List.setIfInBounds_toArray, List.set_cons_zero, List.set_cons_succ]
              refine wpK_takeP (i := 21) (d := some 82) (v := ?_) rfl (by kernel_rfl) (by kernel_rfl) (by kernel_rfl) (by kernel_rfl) rfl (fun _ _ _ h => h) (.inl ⟨by rfl, fun w hw => ?_⟩) (fun h => absurd h (by intro h; have h : true = false := h; cases h)) ?_
              rotate_left
              · clear hw; go_simp; with_reducible rfl
              try simp only [Act.put, List.setIfInBounds_toArray, List.set_cons_zero, List.set_cons_succ]
              refine wpK_takeP (i := 22) (d := some 83) (v := ?_) rfl (by kernel_rfl) (by kernel_rfl) (by kernel_rfl) (by kernel_rfl) rfl (fun _ _ _ h => h) (.inl ⟨by rfl, fun w hw => ?_⟩) (fun h => absurd h (by intro h; have h : true = false := h; cases h)) ?_
              rotate_left
              · clear hw; go_simp; with_reducible rfl
              try simp only [Act.put, List.setIfInBounds_toArray, List.set_cons_zero, List.set_cons_succ]
              have t2x : (we.setCell ⟨T, 1, none⟩ (.slice (some ⟨gm, 0, none⟩) (k + 1) cm)).cell? ⟨T, 2, none⟩ = some rv := (World.cell?_setCell_other _ _ _ _ (by intro e; have := congrArg Addr.off e; dsimp only at this; omega)).trans t2
              refine wpK_store1 (i := 23) (by kernel_rfl) rfl rfl rfl (by kernel_rfl) (by kernel_rfl) _ _ _ rfl T 2 (.slice (some ⟨gr, 0, none⟩) (k + 1) cr) rfl rfl rfl (by rw [t2x]; rfl) (by rw [World.frozen?_setCell]; exact hfx.fz 2) (by kernel_rfl) rfl ?_
              have hdist := new_dist (gm := gm) (gr := gr) HD.out HOM.out HOR.out HRB.out hat72 hat79 (by omega) (by omega) (by omega) (by omega) (by omega)
              have HNEW := Lib.hid (new_next (w := we) (gm := gm) (gr := gr) (mv' := .slice (some ⟨gm, 0, none⟩) (k + 1) cm) (rv' := .slice (some ⟨gr, 0, none⟩) (k + 1) cr) t1 t2 (by rw [HY71.out] at om2; exact om2) (by rw [HM'.out] at orr2; exact orr2) hrows HRB.out nh (by omega) (by omega) HINJ.out rfl rfl hdist (by have := own_lt om2 gm rfl; omega) (by have := own_lt orr2 gr rfl; omega))
              have HFXN := Lib.hid ((hfx.set (v := .slice (some ⟨gm, 0, none⟩) (k + 1) cm) (.inl rfl) HGT.out).set (v := .slice (some ⟨gr, 0, none⟩) (k + 1) cr) (.inr rfl) HGT.out)
              have HALLN : Hid (NumB (T + 1) (rowL (allTo n (sysB s) (k + 1))) ((we.setCell ⟨T, 1, none⟩ (.slice (some ⟨gm, 0, none⟩) (k + 1) cm)).setCell ⟨T, 2, none⟩ (.slice (some ⟨gr, 0, none⟩) (k + 1) cr))) := Lib.hid ((hall.other (by omega)).other (by omega))
              have HC1N := Lib.hid ((World.cell?_setCell_other (we.setCell ⟨T, 1, none⟩ (.slice (some ⟨gm, 0, none⟩) (k + 1) cm)) ⟨T, 2, none⟩ ⟨W.heap.size, 1, none⟩ (.slice (some ⟨gr, 0, none⟩) (k + 1) cr) (by intro e; have := congrArg Addr.block e; dsimp only at this; have := HWT.out; omega)).trans ((World.cell?_setCell_other we ⟨T, 1, none⟩ ⟨W.heap.size, 1, none⟩ (.slice (some ⟨gm, 0, none⟩) (k + 1) cm) (by intro e; have := congrArg Addr.block e; dsimp only at this; have := HWT.out; omega)).trans c1))
              have HBN := Lib.hid ((hB.setCell (p := ⟨T, 1, none⟩) (Nat.le_of_lt HWT.out) (.slice (some ⟨gm, 0, none⟩) (k + 1) cm)).setCell (p := ⟨T, 2, none⟩) (Nat.le_of_lt HWT.out) (.slice (some ⟨gr, 0, none⟩) (k + 1) cr))
              generalize (we.setCell ⟨T, 1, none⟩ (.slice (some ⟨gm, 0, none⟩) (k + 1) cm)).setCell ⟨T, 2, none⟩ (.slice (some ⟨gr, 0, none⟩) (k + 1) cr) = wz at *
              clear t1 t2 t2x hfx hall nh c1 hB hrows om2 orr2 hdist n78
              go_wp2_with fail
              go_roundw
              case rel => exact ⟨k + 1, by omega, by go_num, ⟨_, _, _, HNEW.out⟩, HFXN.out, HALLN.out, HC1N.out, HBN.out⟩
              case measure => simp [intOf]; omega
    · obtain rfl : n = k := by omega
      have t2 := HNW.out.c2
      have hba := alloc_belowL wr (.cells #[.slice (some ⟨T + 1, 0, none⟩) m m] 77)
      have n78 : (wr.alloc (.cells #[.slice (some ⟨T + 1, 0, none⟩) m m] 77)).cell? ⟨wr.heap.size, 0, none⟩ = some (.slice (some ⟨T + 1, 0, none⟩) m m) := (cell_of_row _ _ 0 _ _ _ (heap_alloc_new wr (.cells #[.slice (some ⟨T + 1, 0, none⟩) m m] 77))).trans rfl
      have HN78 := Lib.hid (news_of_cell n78)
      have HORR := Lib.hid (owns_below HNW.out.orr hba)
      have HNWa := Lib.hid (HNW.out.via hba)
      have HFXa := Lib.hid (HFX.out.via hba)
      have HALLa := Lib.hid (HALL.out.via hba)
      have HBa := Lib.hid (belowVia hba hB)
      have HBSZ : Hid (T + 1 + 1 ≤ (wr.alloc (.cells #[.slice (some ⟨T + 1, 0, none⟩) m m] 77)).heap.size) := Lib.hid (by have h1 := (Array.getElem?_eq_some_iff.1 HALL.out).1; have h2 := hba.size; omega)
      have HOR : Hid (∀ p, rv.ownBlock = some p → T + 1 < p ∧ p < wr.heap.size) := Lib.hid (fun p e => own_lt HNW.out.orr p e)
      have HOM : Hid (∀ p, mv.ownBlock = some p → T + 1 < p ∧ p < wr.heap.size) := Lib.hid (fun p e => own_lt HNW.out.om p e)
      have HRB : Hid (∀ i, i < n → rb i < wr.heap.size) := Lib.hid (fun i hi => (Array.getElem?_eq_some_iff.1 (HNW.out.rows i hi).1).1)
      have HSA := Lib.hid (alloc_sizeL wr (.cells #[.slice (some ⟨T + 1, 0, none⟩) m m] 77))
      clear hba n78 hB c1 HB HALL HFX HNW hlt hk
      go_wp2_with (at_builtin; go_must (refine wpList_append_lies _ rfl _ _ 101 rfl (T + 1 + 1) 77 l0 (.slice none 0 0) 1 24 Tryz.underlying101 HL0.out HX0.out HX1.out HX2.out rfl (by decide) rv n ((List.range n).map (rowV n rb)) (by rfl) HORR.out ⟨wr.heap.size, 0, none⟩ 1 1 [.slice (some ⟨T + 1, 0, none⟩) m m] (by rfl) rfl HN78.out (one_slc _ _ _) (by decide) (by unfold maxLen; omega) (by omega) HBSZ.out _ rfl ?_); intro gr cr w9 orr2 hgr hat hlt9; have t2 := kept_own hgr HNWa.out.c2 (fun p e => by have := HOR.out p e; omega); have t1 := kept_own hgr HNWa.out.c1 (fun p e => by have := HOR.out p e; omega); have hfx := HFXa.out.grown hgr (fun p e => by have := HOR.out p e; omega) hgcT; have f2 := hfx.fz 2; have ORR2 := Lib.hid orr2; have HGR := Lib.hid hgr; have HAT := Lib.hid hat; have T1 := Lib.hid t1; have T2 := Lib.hid t2; have HFX9 := Lib.hid hfx; clear orr2 hgr hat t1 hfx hlt9)
      go_ret
      have hgr := HGR.out
      rw [HSA.out] at HAT
      have hgrne : ∀ i, i < n → rb i ≠ gr := fun i hi => by
        rcases HAT.out with e | e
        · exact HNWa.out.dr i hi gr e
        · have := HRB.out i hi; omega
      have hgT : T + 1 < gr := by have := (own_cap ORR2.out).2.2; omega
      have hcell : ∀ p i v, p ≠ T ∨ i ≠ 2 → w9.cell? ⟨p, i, none⟩ = some v → (w9.setCell ⟨T, 2, none⟩ (.slice (some ⟨gr, 0, none⟩) (n + 1) cr)).cell? ⟨p, i, none⟩ = some v := fun p i v hne h =>
        (World.cell?_setCell_other _ _ _ _ (by intro e; have e1 := congrArg Addr.block e; have e2 := congrArg Addr.off e; dsimp only at e1 e2; omega)).trans h
      have hom2 := own_set (owns_grown HNWa.out.om hgr (fun g g' e1 e2 => HNWa.out.dd g g' e1 e2)) (p := T) (i := 2) (u := .slice (some ⟨gr, 0, none⟩) (n + 1) cr) (fun p e => by have := HOM.out p e; omega)
      have horr2 := own_set ORR2.out (p := T) (i := 2) (u := .slice (some ⟨gr, 0, none⟩) (n + 1) cr) (fun p e => by have e : some gr = some p := e; cases e; omega)
      rw [HM'.out] at horr2
      obtain ⟨am, cm, htab⟩ := new_tab (B := W.heap.size) (w := w9.setCell ⟨T, 2, none⟩ (.slice (some ⟨gr, 0, none⟩) (n + 1) cr)) (b := sysB s) (HFX9.out.set (.inr rfl) hgcT) (hcell _ _ _ (.inr (by decide)) T1.out) (World.cell?_setCell_same' _ _ _ (by rw [T2.out]; rfl)) hom2 horr2
        (fun i hi => ⟨(kept_num hgr (HNWa.out.rows i hi).1 (fun p e => HNWa.out.dr i hi p e)).other (by have := (HNWa.out.rows i hi).2; omega), (HNWa.out.rows i hi).2⟩) ((kept_num hgr HALLa.out (fun p e => by have := HOR.out p e; omega)).other (by omega)) HNWa.out.inj HNWa.out.dm hgrne
        (fun g e => by rcases HAT.out with e2 | e2; exact HNWa.out.dd g gr e e2; have := HOM.out g e; omega) (Nat.le_of_lt HWT.out) hgcT
      refine ⟨⟨_, rfl, htab⟩, ?_⟩
      exact (HBa.out.grown hgr HBa.out.size (fun p e => by have := HOR.out p e; have := HWT.out; omega)).setCell (p := ⟨T, 2, none⟩) (Nat.le_of_lt HWT.out) _
end Go.Proofs.YtbdidkncgklljaaGreatDoor
/- RatStr: Integer's functions, whatever the two texts. -/
namespace Go.Proofs.YtbdidkncgklljaaGreatDoor
open Go.RowKit Putlog

def Sized (x : ByteArray) : Prop := (x.size : Int) ≤ 9223372036854775807
theorem sized_int {z : Int} (h : z.natAbs < 10000 ^ 250) : Sized (intB z) := by have := intB_small h; unfold Sized; omega
theorem sized_fits {z : Int} (h : Fits z) : Sized (intB z) := sized_int (fits250 h)
theorem sized_nil : Sized ⟨#[]⟩ := by unfold Sized; decide
/-- An operation on the integers that two texts are. -/
def op2 (f : Int → Int → ByteArray × Int) (x y : ByteArray) : ByteArray × Int :=
  match readI x, readI y with
  | some a, some b => f a b
  | _, _ => (⟨#[]⟩, 30)
theorem op2_ints {f : Int → Int → ByteArray × Int} {a b : Int} (ha : Fits a) (hb : Fits b) : op2 f (intB a) (intB b) = f a b := by unfold op2; rw [readI_int ha, readI_int hb]
def addF (a b : Int) : ByteArray × Int := (okS (a + b), okE (a + b))
def mulF (a b : Int) : ByteArray × Int := (okS (a * b), okE (a * b))
def gcdF (a b : Int) : ByteArray × Int := (intB (Int.gcd a b : Nat), 0)
def divS (x y : ByteArray) : ByteArray × ByteArray × Int :=
  match readI x, readI y with
  | some a, some b => if b = 0 then (⟨#[]⟩, ⟨#[]⟩, 30) else (intB (a / b), intB (a % b), 0)
  | _, _ => (⟨#[]⟩, ⟨#[]⟩, 30)
theorem divS_ints {a b : Int} (ha : Fits a) (hb : Fits b) (h : b ≠ 0) : divS (intB a) (intB b) = (intB (a / b), intB (a % b), 0) := by unfold divS; rw [readI_int ha, readI_int hb]; exact if_neg h
theorem sized_okS (z : Int) : Sized (okS z) := by
  unfold okS; split
  · rename_i h; exact sized_fits h
  · exact sized_nil
theorem str_cases (s t : ByteArray) (hs : Sized s) (ht : Sized t) :
    (∃ x y, s = intB x ∧ t = intB y ∧ Fits x ∧ Fits y) ∨ ((readI s = none ∨ readI t = none) ∧ ∀ w, Calls Tryz.prog 132 #[.string s, .string t] w fun e w' => e = .returned (.tuple #[.agg #[.bool false, .slice none 0 0], .agg #[.bool false, .slice none 0 0], .bool false]) ∧ Below w.heap.size w w') := by
  rcases both_cases s t hs ht with h | ⟨h1, h2⟩
  · exact .inl h
  · refine .inr ⟨?_, h2⟩
    rcases Bool.and_eq_false_iff.1 h1 with h | h
    · exact .inl (readI_none h)
    · exact .inr (readI_none h)
theorem op2_no {f : Int → Int → ByteArray × Int} {s t : ByteArray} (h : readI s = none ∨ readI t = none) : op2 f s t = (⟨#[]⟩, 30) := by
  unfold op2
  rcases h with h | h <;> rw [h]
  cases readI s <;> rfl
theorem divS_no {s t : ByteArray} (h : readI s = none ∨ readI t = none) : divS s t = (⟨#[]⟩, ⟨#[]⟩, 30) := by
  unfold divS
  rcases h with h | h <;> rw [h]
  cases readI s <;> rfl
/-- What a function on two texts answers, whatever they are. -/
def Op2 (h : Nat) (F : ByteArray → ByteArray → ByteArray × Int) : Prop :=
  (∀ args w, (callFunc h args).run Tryz.prog w = .ok (.enter h args) w) ∧ (∀ x y, Sized x → Sized y → Sized (F x y).1) ∧
  ∀ (x y : ByteArray) (w : World), Sized x → Sized y → Calls Tryz.prog h #[.string x, .string y] w (GivesInt (F x y).1 (F x y).2 w)
theorem sized_op2 {f : Int → Int → ByteArray × Int} (h : ∀ a b, Fits a → Fits b → Sized (f a b).1) (x y : ByteArray) : Sized (op2 f x y).1 := by
  unfold op2
  split
  · rename_i a b h1 h2; exact h a b (readI_some h1).2 (readI_some h2).2
  · exact sized_nil
theorem op2_add : Op2 86 (op2 addF) := by
  refine ⟨enters_of Tryz.func86 (by kernel_rfl) rfl, fun x y _ _ => sized_op2 (fun a b _ _ => sized_okS _) x y, fun x y w hx hy => ?_⟩
  rcases str_cases x y hx hy with ⟨a, b, rfl, rfl, ha, hb⟩ | ⟨h1, h2⟩
  · rw [op2_ints ha hb]; exact add_ok a b ha hb w
  · rw [op2_no h1]; exact add_any _ _ _ _ w (comb_no _ _ _ w (h2 w))
theorem op2_mul : Op2 80 (op2 mulF) := by
  refine ⟨enters_of Tryz.func80 (by kernel_rfl) rfl, fun x y _ _ => sized_op2 (fun a b _ _ => sized_okS _) x y, fun x y w hx hy => ?_⟩
  rcases str_cases x y hx hy with ⟨a, b, rfl, rfl, ha, hb⟩ | ⟨h1, h2⟩
  · rw [op2_ints ha hb]; exact mul_ok a b ha hb w
  · rw [op2_no h1]; exact mul_any _ _ _ _ w (comb_no _ _ _ w (h2 w))
theorem op2_gcd : Op2 106 (op2 gcdF) := by
  refine ⟨enters_of Tryz.func106 (by kernel_rfl) rfl, fun x y _ _ => sized_op2 (fun a b ha hb => sized_fits (gcd_fits ha hb)) x y, fun x y w hx hy => ?_⟩
  rcases str_cases x y hx hy with ⟨a, b, rfl, rfl, ha, hb⟩ | ⟨h1, h2⟩
  · rw [op2_ints ha hb]; exact gcd_ok a b ha hb w
  · rw [op2_no h1]; exact gcd_call _ _ _ _ w (comb_no _ _ _ w (h2 w))
theorem div_str (x y : ByteArray) (w : World) (hx : Sized x) (hy : Sized y) :
    Calls Tryz.prog 107 #[.string x, .string y] w fun e w' => e = .returned (.tuple #[.string (divS x y).1, .string (divS x y).2.1, .int .i64 (divS x y).2.2]) ∧ Below w.heap.size w w' := by
  rcases str_cases x y hx hy with ⟨a, b, rfl, rfl, ha, hb⟩ | ⟨h1, h2⟩
  · by_cases h0 : b = 0
    · subst h0
      have : divS (intB a) (intB 0) = (⟨#[]⟩, ⟨#[]⟩, 30) := by unfold divS; rw [readI_int ha, readI_int hb]; rfl
      rw [this]; exact div_zero a ha w
    · rw [divS_ints ha hb h0]; exact div_ok a b ha hb h0 w
  · rw [divS_no h1]; exact div_no _ _ w (h2 w)
theorem sized_divS (x y : ByteArray) : Sized (divS x y).1 ∧ Sized (divS x y).2.1 := by
  unfold divS
  split
  · rename_i a b h1 h2
    split
    · exact ⟨sized_nil, sized_nil⟩
    · rename_i h0
      refine ⟨sized_fits (Nat.lt_of_le_of_lt (Int.natAbs_ediv_le_natAbs a b) (readI_some h1).2), sized_fits ?_⟩
      have h3 := (readI_some h2).2
      obtain ⟨_, e2, e3⟩ := ediv_spec a b h0
      unfold Fits at *; omega
  · exact ⟨sized_nil, sized_nil⟩
end Go.Proofs.YtbdidkncgklljaaGreatDoor
/- LinVec: The contracts of product, sum and divided, whatever the texts. -/
namespace Go.Proofs.YtbdidkncgklljaaGreatDoor
open Go.RowKit Putlog

set_option maxRecDepth 100000 in
set_option maxHeartbeats 1000000 in
theorem product_c (x y : ByteArray) (W : World) (hx : Sized x) (hy : Sized y) : Calls Tryz.prog 52 #[.string x, .string y] W fun e w' => e = .returned (.string (op2 mulF x y).1) ∧ Below W.heap.size W w' := by
  have HC := Lib.hid (op2_mul.2.2 x y W hx hy)
  clear hx hy
  generalize (op2 mulF x y).1 = z at *
  generalize (op2 mulF x y).2 = k at *
  go_enter Tryz.func52, Tryz.ntmps52
  go_wp2_with fail
  refine HC.out.mono ?_
  rintro e w1 ⟨rfl, hB⟩
  go_wp2_with fail
  go_ret
  exact ⟨rfl, hB⟩
set_option maxRecDepth 100000 in
set_option maxHeartbeats 1000000 in
theorem sum_c (x y : ByteArray) (W : World) (hx : Sized x) (hy : Sized y) : Calls Tryz.prog 55 #[.string x, .string y] W fun e w' => e = .returned (.string (op2 addF x y).1) ∧ Below W.heap.size W w' := by
  have HC := Lib.hid (op2_add.2.2 x y W hx hy)
  clear hx hy
  generalize (op2 addF x y).1 = z at *
  generalize (op2 addF x y).2 = k at *
  go_enter Tryz.func55, Tryz.ntmps55
  go_wp2_with fail
  refine HC.out.mono ?_
  rintro e w1 ⟨rfl, hB⟩
  go_wp2_with fail
  go_ret
  exact ⟨rfl, hB⟩
def gcdS (c t : ByteArray) : ByteArray := (op2 gcdF c t).1
def gcdT (l : List ByteArray) : ByteArray := l.foldl gcdS ⟨#[48]⟩
def divL (l : List ByteArray) : List ByteArray := l.map fun t => (divS t (gcdT l)).1
def strV (l : List ByteArray) : List Value := l.map Value.string
theorem sized_gcdS {c t : ByteArray} (h1 : Sized c) (h2 : Sized t) : Sized (gcdS c t) := op2_gcd.2.1 c t h1 h2
theorem sized_fold : ∀ (l : List ByteArray) (c : ByteArray), Sized c → (∀ t ∈ l, Sized t) → Sized (l.foldl gcdS c)
  | [], _, h, _ => h
  | t :: l, c, h, hl => sized_fold l _ (sized_gcdS h (hl t (List.mem_cons_self ..))) (fun u hu => hl u (List.mem_cons_of_mem _ hu))
theorem StrsFrom.get {w : World} {a : Option Addr} {l : List ByteArray} (h : StrsFrom w a l) {k : Nat} (hk : k < l.length) : ∃ g o, a = some ⟨g, o, none⟩ ∧ w.cell? ⟨g, o + k, none⟩ = some (.string l[k]) := by
  rcases h with h0 | ⟨g, o, h1, h2⟩
  · rw [h0] at hk; simp at hk
  · refine ⟨g, o, h1, ?_⟩
    rw [h2 k hk, List.getD_eq_getElem?_getD, List.getElem?_eq_getElem hk]; rfl
set_option maxRecDepth 100000 in
set_option maxHeartbeats 2000000 in
theorem divided_c (l : List ByteArray) (a : Option Addr) (ca : Nat) (W : World) (hl : StrsFrom W a l) (hs : ∀ t ∈ l, Sized t) (hn : l.length ≤ ca) (hca : (ca : Int) ≤ 9223372036854775807) (hlb : l.length ≤ 1000000) :
    Calls Tryz.prog 77 #[.slice a l.length ca] W fun e w' => (∃ g : Nat, e = .returned (.slice (some ⟨g, 0, none⟩) l.length l.length) ∧ W.heap.size ≤ g ∧ BlkB 9 g (strV (divL l)) w') ∧ Below W.heap.size W w' := by
  obtain ⟨i0, hi0, hz0, hz1, hz2⟩ := info_ex inf_str
  have HI0 := Lib.hid hi0
  have HZ0 := Lib.hid hz0
  have HZ1 := Lib.hid hz1
  have HZ2 := Lib.hid hz2
  have HL := Lib.hid hl
  have HS := Lib.hid hs
  obtain ⟨n, hnn⟩ : ∃ n, n = l.length := ⟨_, rfl⟩
  have HN := Lib.hid hnn
  rw [← hnn] at hn ⊢
  have hnb : (n : Int) ≤ 1000000 := by omega
  have hnc : (n : Int) ≤ ca := by omega
  have HB := Lib.hid (Below.refl W.heap.size W)
  have h0 : Sized ⟨#[48]⟩ := by unfold Sized; decide
  have H0 := Lib.hid h0
  clear hi0 hz0 hz1 hz2 hl hs hnn hn h0
  go_enter Tryz.func77, Tryz.ntmps77
  go_wp2_with fail
  go_loopw [3, 11] (fun c i wr => ∃ k : Nat, k ≤ n ∧ i = .int .i64 k ∧ c = .string ((l.take k).foldl gcdS ⟨#[48]⟩) ∧ Below W.heap.size W wr) (fun _ i _ => n - (intOf i).toNat)
  case atStart => exact ⟨0, Nat.zero_le _, rfl, rfl, HB.out⟩
  case round =>
    clear HB
    obtain ⟨k, hk, rfl, rfl, hB⟩ := hrel
    by_cases hlt : k < n
    · have hlt' : (k : Int) < n := by omega
      have hkl : k < l.length := by have := HN.out; omega
      obtain ⟨g, o, rfl, c0⟩ := HL.out.get hkl
      have c0 := keptBelow hB c0
      have htk : (l.take (k + 1)).foldl gcdS ⟨#[48]⟩ = gcdS ((l.take k).foldl gcdS ⟨#[48]⟩) l[k] := by
        rw [List.take_succ_eq_append_getElem hkl, List.foldl_append]; rfl
      have HTK := Lib.hid htk
      have hsc := sized_fold (l.take k) ⟨#[48]⟩ H0.out (fun t ht => HS.out t (List.mem_of_mem_take ht))
      have hst := HS.out l[k] (List.getElem_mem hkl)
      have HC := Lib.hid (op2_gcd.2.2 ((l.take k).foldl gcdS ⟨#[48]⟩) l[k] wr hsc hst)
      have HB := Lib.hid hB
      have e1 : (op2 gcdF ((l.take k).foldl gcdS ⟨#[48]⟩) l[k]).1 = gcdS ((l.take k).foldl gcdS ⟨#[48]⟩) l[k] := rfl
      rw [e1, ← htk] at HC
      clear htk hsc hst hB e1 HTK
      generalize (op2 gcdF ((l.take k).foldl gcdS ⟨#[48]⟩) l[k]).2 = q at *
      obtain ⟨c1, hc1⟩ : ∃ c1, c1 = (l.take (k + 1)).foldl gcdS ⟨#[48]⟩ := ⟨_, rfl⟩
      rw [← hc1] at HC
      have HC1 := Lib.hid hc1
      clear hc1
      generalize (l.take k).foldl gcdS ⟨#[48]⟩ = c at *
      generalize l[k] = t at *
      clear hkl
      go_wp2_with fail
      refine HC.out.mono ?_
      rintro e w2 ⟨rfl, hB2⟩
      have HB2 := Lib.hid (belowVia hB2 HB.out)
      clear hB2
      go_wp2_with fail
      go_roundw
      case rel => exact ⟨k + 1, by omega, by go_num, by rw [HC1.out], HB2.out⟩
      case measure => simp [intOf]; omega
    · obtain rfl : n = k := by omega
      have htk : l.take n = l := List.take_of_length_le (by have := HN.out; omega)
      rw [htk]
      obtain ⟨G, hG⟩ : ∃ G, G = gcdT l := ⟨_, rfl⟩
      have hG' : List.foldl gcdS ⟨#[48]⟩ l = G := hG.symm
      rw [hG']
      have HG := Lib.hid hG
      have hsG : Sized G := by rw [hG]; exact sized_fold l ⟨#[48]⟩ H0.out HS.out
      have HSG := Lib.hid hsG
      have HB := Lib.hid hB
      clear htk hG hG' hsG hB hlt hk
      go_wp2_with (at_make; go_must (refine wpList_make_full _ rfl _ _ 28 rfl wr.heap.size 9 i0 (.string ⟨#[]⟩) 1 Tryz.underlying28 HI0.out HZ0.out HZ1.out .i64 .i64 (n : Int) (n : Int) n rfl rfl rfl rfl (by rw [HZ2.out]; omega) (by unfold maxLen; omega) (Nat.le_refl _) ?_); intro w1 hown hgrow; have HR := Lib.hid (blk_made (z := .string ⟨#[]⟩) rfl hown); have hBm := belowMadeL hgrow; have HB1 := Lib.hid (belowVia hBm HB.out); have HWR := Lib.hid HB.out.size; clear hown hgrow hBm)
      generalize wr.heap.size = p at *
      clear HB
      go_loopw [27] (fun i wx => ∃ k : Nat, k ≤ n ∧ i = .int .i64 k ∧ BlkB 9 p (strV ((divL l).take k) ++ List.replicate (n - k) (.string ⟨#[]⟩)) wx ∧ Below W.heap.size W wx) (fun i _ => n - (intOf i).toNat)
      case atStart => exact ⟨0, Nat.zero_le _, rfl, by simpa [strV] using HR.out, HB1.out⟩
      case round =>
        clear HR HB1
        obtain ⟨k, hk, rfl, hblk, hB⟩ := hrel
        by_cases hlt : k < n
        · have hlt' : (k : Int) < n := by omega
          have hkl : k < l.length := by have := HN.out; omega
          obtain ⟨g, o, rfl, c0⟩ := HL.out.get hkl
          have c0 := keptBelow hB c0
          have HC := Lib.hid (div_str l[k] G wr (HS.out l[k] (List.getElem_mem hkl)) HSG.out)
          have hdl : (divL l)[k]? = some (divS l[k] G).1 := by unfold divL; rw [List.getElem?_map, List.getElem?_eq_getElem hkl, ← HG.out]; rfl
          have hpl : (strV ((divL l).take k)).length = k := by unfold strV; rw [List.length_map, List.length_take]; unfold divL; rw [List.length_map]; omega
          have hrp : List.replicate (n - k) (Value.string ⟨#[]⟩) = .string ⟨#[]⟩ :: List.replicate (n - (k + 1)) (.string ⟨#[]⟩) := by
            rw [show n - k = (n - (k + 1)) + 1 by omega, List.replicate_succ]
          have htk : strV ((divL l).take (k + 1)) = strV ((divL l).take k) ++ [.string (divS l[k] G).1] := by
            unfold strV
            rw [List.take_add_one, hdl, List.map_append]; rfl
          rw [hrp] at hblk
          have HBK := Lib.hid hblk
          have HPL := Lib.hid hpl
          have HTK := Lib.hid htk
          have HB := Lib.hid hB
          clear hrp hblk hpl htk hdl hB
          generalize (divS l[k] G).1 = q1 at *
          generalize (divS l[k] G).2.1 = q2 at *
          generalize (divS l[k] G).2.2 = q3 at *
          generalize l[k] = t at *
          go_wp2_with fail
          refine HC.out.mono ?_
          rintro e w2 ⟨rfl, hB2⟩
          have hb2 := HBK.out.via hB2
          have d1 := hb2.cell (mid_one _ _ _ HPL.out)
          have d2 := hb2.froz k
          have HBK2 : Hid (BlkB 9 p (strV ((divL l).take (k + 1)) ++ List.replicate (n - (k + 1)) (.string ⟨#[]⟩)) (w2.setCell ⟨p, k, none⟩ (.string q1))) := Lib.hid (by
            have := hb2.set k (.string q1)
            rw [mid_put _ _ _ _ HPL.out] at this
            rw [HTK.out, List.append_assoc]; exact this)
          have HB2 : Hid (Below W.heap.size W (w2.setCell ⟨p, k, none⟩ (.string q1))) := Lib.hid ((belowVia hB2 HB.out).setCell (p := ⟨p, k, none⟩) HWR.out _)
          clear hb2 hB2 HBK HB HTK
          go_wp2_with fail
          go_roundw
          case rel => exact ⟨k + 1, by omega, by go_num, HBK2.out, HB2.out⟩
          case measure => simp [intOf]; omega
        · obtain rfl : n = k := by omega
          have htk : (divL l).take n = divL l := List.take_of_length_le (by unfold divL; rw [List.length_map]; have := HN.out; omega)
          rw [htk, Nat.sub_self, List.replicate_zero, List.append_nil] at hblk
          have HBK := Lib.hid hblk
          have HB := Lib.hid hB
          clear htk hblk hB
          go_wp2_with fail
          go_ret
          exact ⟨⟨p, rfl, HWR.out, HBK.out⟩, HB.out⟩
end Go.Proofs.YtbdidkncgklljaaGreatDoor
/- LinRep: The contract of slices.Repeat, for a slice of one string. -/
namespace Go.Proofs.YtbdidkncgklljaaGreatDoor
open Go.RowKit Putlog

theorem splice_rep {α : Type} (x y : α) {n c m : Nat} (h : n + m ≤ c) : splice (List.replicate n x ++ List.replicate (c - n) y) n (List.replicate m x) = List.replicate (n + m) x ++ List.replicate (c - (n + m)) y := by
  unfold splice
  rw [List.take_append_of_le_length (by simp), List.take_of_length_le (by simp), List.length_replicate, List.drop_append, List.drop_of_length_le (by simp)]
  simp only [List.length_replicate, List.nil_append, List.drop_replicate, List.replicate_append_replicate, List.append_assoc]
  rw [← List.append_assoc, List.replicate_append_replicate]
  congr 2; omega
set_option maxRecDepth 100000 in
set_option maxHeartbeats 2000000 in
theorem repeat_c (x : ByteArray) (c g : Nat) (W : World) (hc : c ≤ 64) (hx : W.cell? ⟨g, 0, none⟩ = some (.string x)) :
    Calls Tryz.prog 71 #[.slice (some ⟨g, 0, none⟩) 1 1, .int .i64 c] W fun e w' => (∃ p : Nat, e = .returned (.slice (some ⟨p, 0, none⟩) c c) ∧ W.heap.size ≤ p ∧ BlkB 9 p (List.replicate c (.string x)) w') ∧ Below W.heap.size W w' := by
  obtain ⟨i0, hi0, hz0, hz1, hz2⟩ := info_ex inf_str
  have HI0 := Lib.hid hi0
  have HZ0 := Lib.hid hz0
  have HZ1 := Lib.hid hz1
  have HZ2 := Lib.hid hz2
  have hc64 : (c : Int) ≤ 64 := by omega
  have HX := Lib.hid hx
  have hcu : IntKind.u64.wrap (c : Int) = c := by rw [IntKind.wrap_u64]; omega
  have hci : IntKind.i64.wrap (c : Int) = c := by rw [IntKind.wrap_i64]; omega
  have hmul : ∀ w, Calls Tryz.prog 96 #[.int .u64 1, .int .u64 c] w fun e w' => e = .returned (.tuple #[.int .u64 0, .int .u64 c]) ∧ w' = w := fun w => by
    have := Tryz.bits_Mul 1 c (by decide) (by omega) w
    rw [show ((1 * c / 18446744073709551616 : Nat) : Int) = 0 by omega, show ((1 * c % 18446744073709551616 : Nat) : Int) = c by omega] at this
    exact this
  have HMU := Lib.hid hmul
  obtain ⟨n0, hn0⟩ : ∃ n0, n0 = Nat.min 1 c := ⟨_, rfl⟩
  have h01 : n0 ≤ 1 := by rw [hn0]; exact Nat.min_le_left 1 c
  have h0c : n0 ≤ c := by rw [hn0]; exact Nat.min_le_right 1 c
  have h0p : 0 < c → n0 = 1 := fun h => by rw [hn0]; exact Nat.min_eq_left h
  have hsrc : ∀ w', Below W.heap.size W w' → ∀ j v, (List.replicate n0 (Value.string x))[j]? = some v → w'.cell? ((⟨g, 0, none⟩ : Addr).add j) = some v := fun w' hb j v hv => by
    rw [List.getElem?_replicate] at hv
    split at hv
    · rename_i hj
      cases hv
      obtain rfl : j = 0 := by omega
      exact keptBelow hb hx
    · cases hv
  have hone : ∀ n, ∀ v ∈ List.replicate n (Value.string x), v.oneCell' = true := fun n v hv => by rw [List.eq_of_mem_replicate hv]; rfl
  have HSRC := Lib.hid hsrc
  have HONE := Lib.hid hone
  have HN0 := Lib.hid (And.intro hn0 (And.intro h01 (And.intro h0c h0p)))
  have HF0 : Hid (0 + (List.replicate n0 (Value.string x)).length ≤ (List.replicate c (Value.string ⟨#[]⟩)).length) := Lib.hid (by rw [List.length_replicate, List.length_replicate]; omega)
  clear hi0 hz0 hz1 hz2 hx hc hmul hsrc hone hn0 h01 h0c h0p
  go_enter Tryz.func71, Tryz.ntmps71
  go_wp2_with fail
  refine (HMU.out _).mono ?_
  rintro e w1 ⟨rfl, rfl⟩
  go_wp2_with (first
    | (at_make; go_must (refine wpList_make_full _ rfl _ _ 28 rfl w1.heap.size 9 i0 (.string ⟨#[]⟩) 1 Tryz.underlying28 HI0.out HZ0.out HZ1.out .i64 .i64 (c : Int) (c : Int) c rfl rfl rfl rfl (by rw [HZ2.out]; omega) (by unfold maxLen; omega) (Nat.le_refl _) ?_); intro w2 hown hgrow; have HR := Lib.hid (blk_made (z := .string ⟨#[]⟩) rfl hown); have HBm := Lib.hid (belowMadeL hgrow); clear hown hgrow)
    | ((refine wpList_copy_splice rfl (.tmp 31) (.tmp 32) 28 28 rfl 9 Tryz.underlying28 (by kernel_rfl) (some ⟨w1.heap.size, 0, none⟩) (some ⟨g, 0, none⟩) c c 1 1 rfl rfl w1.heap.size 0 (List.replicate c (.string ⟨#[]⟩)) 9 HR.out (List.replicate n0 (.string x)) (by rw [List.length_replicate]; exact HN0.out.1) (fun _ => ⟨rfl, _, rfl, HSRC.out _ HBm.out⟩) HF0.out (HONE.out n0) w1.heap.size w1 HBm.out (Nat.le_refl _) (fun w3 hrow hB => ?_)); simp only [List.length_replicate]))
  have hrow' : BlkB 9 w1.heap.size (List.replicate n0 (.string x) ++ List.replicate (c - n0) (.string ⟨#[]⟩)) w3 := by
    have := hrow.out
    have e := splice_rep (Value.string x) (Value.string ⟨#[]⟩) (n := 0) (c := c) (m := n0) (by have := HN0.out.2.2.1; omega)
    rw [Nat.sub_zero, List.replicate_zero, List.nil_append, Nat.zero_add] at e
    rw [e] at this
    exact this
  have HROW := Lib.hid hrow'
  have HB := Lib.hid hB
  clear hrow hrow' hB HR HBm
  go_loopw [8] (fun i wr => ∃ n : Nat, n ≤ c ∧ (0 < c → 0 < n) ∧ i = .int .i64 n ∧ BlkB 9 w1.heap.size (List.replicate n (.string x) ++ List.replicate (c - n) (.string ⟨#[]⟩)) wr ∧ Below w1.heap.size w1 wr) (fun i _ => c - (intOf i).toNat)
  case atStart => exact ⟨n0, HN0.out.2.2.1, fun h => by have := HN0.out.2.2.2 h; omega, rfl, HROW.out, HB.out⟩
  case round =>
    clear HROW HB
    obtain ⟨n, hn, hnp, rfl, hrow, hB⟩ := hrel
    have HROW := Lib.hid hrow
    have HB := Lib.hid hB
    clear hrow hB
    by_cases hlt : n < c
    · have hlt' : (n : Int) < c := by omega
      have hn0' : 0 < n := hnp (by omega)
      obtain ⟨m, hm⟩ : ∃ m, m = Nat.min n (c - n) := ⟨_, rfl⟩
      have hm1 : m ≤ n := by rw [hm]; exact Nat.min_le_left _ _
      have hm2 : m ≤ c - n := by rw [hm]; exact Nat.min_le_right _ _
      have hm3 : 0 < m := by rw [hm]; exact Nat.lt_min.2 ⟨hn0', by omega⟩
      have HMM := Lib.hid hm
      have HSP := Lib.hid (splice_rep (Value.string x) (Value.string ⟨#[]⟩) (n := n) (c := c) (m := m) (by omega))
      have HFIT : Hid (n + (List.replicate m (Value.string x)).length ≤ (List.replicate n (Value.string x) ++ List.replicate (c - n) (Value.string ⟨#[]⟩)).length) := Lib.hid (by simp; omega)
      have HSR : Hid (∀ w', Below wr.heap.size wr w' → ∀ j v, (List.replicate m (Value.string x))[j]? = some v → w'.cell? ((⟨w1.heap.size, 0, none⟩ : Addr).add j) = some v) := Lib.hid (fun w' hb j v hv => by
        rw [List.getElem?_replicate] at hv
        split at hv
        · rename_i hj
          cases hv
          rw [Addr.add_mid, Nat.zero_add]
          refine keptBelow hb (HROW.out.cell ?_)
          rw [List.getElem?_append_left (by simp; omega), List.getElem?_replicate, if_pos (by omega)]
        · cases hv)
      have hwm : IntKind.i64.wrap ((n : Int) + m) = ((n + m : Nat) : Int) := by rw [IntKind.wrap_i64]; omega
      have hcne : ¬ c = n := by omega
      have hcn : (c : Int) - n = ((c - n : Nat) : Int) := by omega
      have HBD := Lib.hid HB.out.drew
      have HRD : Hid (wr.drew.heap[w1.heap.size]? = some (.cells (List.replicate n (Value.string x) ++ List.replicate (c - n) (Value.string ⟨#[]⟩)).toArray 9 (0, 0))) := Lib.hid HROW.out
      clear hm
      go_wp2_with fail
      refine wp_region_K (fun _ => True) 9 (by kernel_rfl) ?_
      refine wpK_take (i := 0) (d := some 38) (v := ?_) rfl rfl (by kernel_rfl) (by kernel_rfl) (by kernel_rfl) (by kernel_rfl) (by kernel_rfl) rfl (fun _ _ _ h => h) (.inl ⟨by rfl, fun w hw => ?_⟩) trivial ?_
      rotate_left
      · clear hw; go_simp; with_reducible rfl
      try simp only [Act.put, List.setIfInBounds_toArray, List.set_cons_zero, List.set_cons_succ]
      refine wpK_take (i := 1) (d := some 39) (v := ?_) rfl rfl (by kernel_rfl) (by kernel_rfl) (by kernel_rfl) (by kernel_rfl) (by kernel_rfl) rfl (fun _ _ _ h => h) (.inl ⟨by rfl, fun w hw => ?_⟩) trivial ?_
      rotate_left
      · clear hw; go_simp; with_reducible rfl
      try simp only [Act.put, List.setIfInBounds_toArray, List.set_cons_zero, List.set_cons_succ]
      refine wpK_take (i := 2) (d := some 40) (v := ?_) rfl rfl (by kernel_rfl) (by kernel_rfl) (by kernel_rfl) (by kernel_rfl) (by kernel_rfl) rfl (fun _ _ _ h => h) (.inl ⟨by rfl, fun w hw => ?_⟩) trivial ?_
      rotate_left
      · clear hw; go_simp; with_reducible rfl
      try simp only [Act.put, List.setIfInBounds_toArray, List.set_cons_zero, List.set_cons_succ]
      refine wpK_take (i := 3) (d := some 41) (v := ?_) rfl rfl (by kernel_rfl) (by kernel_rfl) (by kernel_rfl) (by kernel_rfl) (by kernel_rfl) rfl (fun _ _ _ h => h) (.inl ⟨by rfl, fun w hw => ?_⟩) trivial ?_
      rotate_left
      · clear hw; go_simp; with_reducible rfl
      try simp only [Act.put, List.setIfInBounds_toArray, List.set_cons_zero, List.set_cons_succ]
      refine wpK_take (i := 4) (d := some 42) (v := ?_) rfl rfl (by kernel_rfl) (by kernel_rfl) (by kernel_rfl) (by kernel_rfl) (by kernel_rfl) rfl (fun _ _ _ h => h) (.inl ⟨by rfl, fun w hw => ?_⟩) trivial ?_
      rotate_left
      · clear hw; go_simp; with_reducible rfl
      try simp only [Act.put, List.setIfInBounds_toArray, List.set_cons_zero, List.set_cons_succ]
      refine wpK_take (i := 5) (d := some 43) (v := ?_) rfl rfl (by kernel_rfl) (by kernel_rfl) (by kernel_rfl) (by kernel_rfl) (by kernel_rfl) rfl (fun _ _ _ h => h) (.inl ⟨by rfl, fun w hw => ?_⟩) trivial ?_
      rotate_left
      · clear hw; go_simp; with_reducible rfl
      try simp only [Act.put, List.setIfInBounds_toArray, List.set_cons_zero, List.set_cons_succ]
      refine wpK_take (i := 6) (d := some 44) (v := ?_) rfl rfl (by kernel_rfl) (by kernel_rfl) (by kernel_rfl) (by kernel_rfl) (by kernel_rfl) rfl (fun _ _ _ h => h) (.inl ⟨by rfl, fun w hw => ?_⟩) trivial ?_
      rotate_left
      · clear hw; go_simp; with_reducible rfl
      try simp only [Act.put, List.setIfInBounds_toArray, List.set_cons_zero, List.set_cons_succ]
      refine wpK_step (i := 7) (by kernel_rfl) rfl rfl (step_copy_splice rfl (.tmp 41) (.tmp 44) 28 28 rfl 9 Tryz.underlying28 (by kernel_rfl) (some ⟨w1.heap.size, n, none⟩) (some ⟨w1.heap.size, 0, none⟩) (c - n) (c - n) n c rfl rfl w1.heap.size n (List.replicate n (Value.string x) ++ List.replicate (c - n) (Value.string ⟨#[]⟩)) 9 HRD.out (List.replicate m (.string x)) (by rw [List.length_replicate]; exact HMM.out) (fun _ => ⟨rfl, _, rfl, HSR.out _ (Below.refl _ _).drew⟩) HFIT.out (HONE.out m) w1.heap.size w1 HBD.out (Nat.le_refl _) (fun w4 hrow hB => ?_))
      refine ⟨(fun _ => trivial), ?_⟩
      simp only [List.length_replicate, List.getElem_toArray, List.getElem_cons_zero, List.getElem_cons_succ]
      try simp only [Act.put, List.setIfInBounds_toArray, List.set_cons_zero, List.set_cons_succ]
      refine wpK_take (i := 8) (d := some 46) (v := ?_) rfl rfl (by kernel_rfl) (by kernel_rfl) (by kernel_rfl) (by kernel_rfl) (by kernel_rfl) rfl (fun _ _ _ h => h) (.inl ⟨by rfl, fun w hw => ?_⟩) trivial ?_
      rotate_left
      · clear hw; go_simp; with_reducible rfl
      try simp only [Act.put, List.setIfInBounds_toArray, List.set_cons_zero, List.set_cons_succ]
      refine wpK_lastY (i := 9) (d := some 8) (v := ?_) (by kernel_rfl) rfl rfl (by kernel_rfl) (by kernel_rfl) (.inl ⟨by rfl, fun w hw => ?_⟩) trivial ?_
      rotate_left
      · clear hw; go_simp; with_reducible rfl
      try simp only [Act.put, List.setIfInBounds_toArray, List.set_cons_zero, List.set_cons_succ]
      have hrow2 : BlkB 9 w1.heap.size (List.replicate (n + m) (.string x) ++ List.replicate (c - (n + m)) (.string ⟨#[]⟩)) w4 := by
        have := hrow.out
        rw [HSP.out] at this
        exact this
      have HR2 := Lib.hid hrow2
      have HB2 := Lib.hid hB
      clear hrow hrow2 hB
      go_wp2_with fail
      go_roundw
      case rel => exact ⟨n + m, by omega, fun _ => by omega, rfl, HR2.out, HB2.out⟩
      case measure => simp [intOf]; omega
    · obtain rfl : n = c := by omega
      have hrow : BlkB 9 w1.heap.size (List.replicate n (.string x)) wr := by have := HROW.out; rw [Nat.sub_self, List.replicate_zero, List.append_nil] at this; exact this
      have HR2 := Lib.hid hrow
      clear hrow
      go_wp2_with fail
      go_ret
      exact ⟨⟨_, rfl, Nat.le_refl _, HR2.out⟩, HB.out⟩
end Go.Proofs.YtbdidkncgklljaaGreatDoor
