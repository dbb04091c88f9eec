/- Numbers with a sign: their form in memory, and the contracts of the small functions on them. -/
import Derived.Test.YtggkbeppfpgkaaaGreatDoorIntRead
import Derived.Test.YtggkbeppfpgkaaaGreatDoorIntDigits
import Derived.Test.YtggkbeppfpgkaaaGreatDoorIntRoot2
namespace Go.Proofs.YtggkbeppfpgkaaaGreatDoor
open Go.RowKit Putlog

/-- A number: its sign, and its absolute value. -/
def NumAt (w : World) (v : Value) (z : Int) : Prop := ∃ a c, v = .agg #[.bool (decide (z < 0)), .slice a (digsL 10000 z.natAbs).length c] ∧ Room (digsL 10000 z.natAbs).length c ∧ CellsAt w a (ofN (digsL 10000 z.natAbs))
theorem NumAt.via {w w' : World} {v : Value} {z : Int} (hB : Below w.heap.size w w') (h : NumAt w v z) : NumAt w' v z := by
  obtain ⟨a, c, h1, h2, h3⟩ := h
  exact ⟨a, c, h1, h2, h3.via hB⟩
theorem info_num : (Tryz.prog.info? 47).map (·.size) = some 2 := by kernel_rfl
/-- What a function gives whose results lie in cells. -/
theorem results_n {fn : Func} {p : Tmp} (h : fn.results = #[.cell p 47]) (tmps : Array Value) (w : World) (g : Nat) (x y : Value) {fr : Nat × Nat} (hp : tmps.getD p undef = .pointer (some ⟨g, 0, none⟩)) (hg : w.heap[g]? = some (.cells #[x, y] 47 fr)) :
    (results fn tmps).run Tryz.prog w = .ok (.agg #[x, y]) w :=
  results_cell_row h tmps w g _ _ _ _ hp hg Tryz.underlying47 rfl info_num
theorem load_n {w : World} {g : Nat} {x y : Value} {fr : Nat × Nat} (hg : w.heap[g]? = some (.cells #[x, y] 47 fr)) : (loadVar 47 ⟨g, 0, none⟩).run Tryz.prog w = .ok (.agg #[x, y]) w :=
  run_loadVar_row w g _ _ _ _ _ hg Tryz.underlying47 rfl info_num
theorem results_nt {fn : Func} {p u : Tmp} (h : fn.results = #[.cell p 47, .tmp u]) (tmps : Array Value) (w : World) (g : Nat) (x y : Value) {fr : Nat × Nat} (hp : tmps.getD p undef = .pointer (some ⟨g, 0, none⟩)) (hg : w.heap[g]? = some (.cells #[x, y] 47 fr)) :
    (results fn tmps).run Tryz.prog w = .ok (.tuple #[.agg #[x, y], tmps.getD u undef]) w := by
  have hp' : tmps[p]?.getD undef = .pointer (some ⟨g, 0, none⟩) := by simpa using hp
  simp [results, h, hp', asAddr, load_n hg]
theorem results_nn {fn : Func} {p q : Tmp} (h : fn.results = #[.cell p 47, .cell q 47]) (tmps : Array Value) (w : World) (g g2 : Nat) (x y x2 y2 : Value) {fr fr2 : Nat × Nat} (hp : tmps.getD p undef = .pointer (some ⟨g, 0, none⟩)) (hg : w.heap[g]? = some (.cells #[x, y] 47 fr))
    (hq : tmps.getD q undef = .pointer (some ⟨g2, 0, none⟩)) (hg2 : w.heap[g2]? = some (.cells #[x2, y2] 47 fr2)) :
    (results fn tmps).run Tryz.prog w = .ok (.tuple #[.agg #[x, y], .agg #[x2, y2]]) w := by
  have hp' : tmps[p]?.getD undef = .pointer (some ⟨g, 0, none⟩) := by simpa using hp
  have hq' : tmps[q]?.getD undef = .pointer (some ⟨g2, 0, none⟩) := by simpa using hq
  simp [results, h, hp', hq', asAddr, load_n hg, load_n hg2]
theorem results_nnt {fn : Func} {p q u : Tmp} (h : fn.results = #[.cell p 47, .cell q 47, .tmp u]) (tmps : Array Value) (w : World) (g g2 : Nat) (x y x2 y2 : Value) {fr fr2 : Nat × Nat} (hp : tmps.getD p undef = .pointer (some ⟨g, 0, none⟩)) (hg : w.heap[g]? = some (.cells #[x, y] 47 fr))
    (hq : tmps.getD q undef = .pointer (some ⟨g2, 0, none⟩)) (hg2 : w.heap[g2]? = some (.cells #[x2, y2] 47 fr2)) :
    (results fn tmps).run Tryz.prog w = .ok (.tuple #[.agg #[x, y], .agg #[x2, y2], tmps.getD u undef]) w := by
  have hp' : tmps[p]?.getD undef = .pointer (some ⟨g, 0, none⟩) := by simpa using hp
  have hq' : tmps[q]?.getD undef = .pointer (some ⟨g2, 0, none⟩) := by simpa using hq
  simp [results, h, hp', hq', asAddr, load_n hg, load_n hg2]
set_option maxRecDepth 100000 in
set_option maxHeartbeats 2000000 in
theorem signed_m (neg : Bool) (a : Option Addr) (n c : Nat) (hn : (n : Int) ≤ 100000) (w : World) :
    Calls Tryz.prog 44 #[.bool neg, .slice a n c] w fun e w' => e = .returned (.agg #[.bool (neg && decide (0 < n)), .slice a n c]) ∧ Below w.heap.size w w' := by
  have h0 : (0 : Int) ≤ n := by omega
  cases neg with
  | false =>
    go_enter Tryz.func44, Tryz.ntmps44
    go_wp2_with fail
    refine bodyPost_ret (results_n rfl _ _ w.heap.size _ _ rfl (heap_alloc_new w _)) rfl ?_
    exact ⟨by simp, (Below.refl _ _).alloc (Nat.le_refl _) _⟩
  | true =>
    go_enter Tryz.func44, Tryz.ntmps44
    go_wp2_with fail
    refine bodyPost_ret (results_n rfl _ _ w.heap.size _ _ rfl (heap_alloc_new w _)) rfl ?_
    exact ⟨by simp, (Below.refl _ _).alloc (Nat.le_refl _) _⟩
theorem digsL_pos_len (N : Nat) : decide (0 < (digsL 10000 N).length) = decide (0 < N) := by
  rcases Nat.eq_zero_or_pos N with h | h
  · subst h; rw [digsL_zero]; rfl
  · have : digsL 10000 N ≠ [] := fun e => by have := digsL_nil e; omega
    have := List.length_pos_iff.2 this
    simp [h, this]
theorem signed_any (neg : Bool) (N : Nat) (sv : Value) (w : World) (hN : N < 10000 ^ 250) (hv : MagAt w sv (digsL 10000 N)) :
    Calls Tryz.prog 44 #[.bool neg, sv] w fun e w' => (∃ v, e = .returned v ∧ NumAt w' v (sgn neg N)) ∧ Below w.heap.size w w' := by
  obtain ⟨a, c, rfl, h1, h2⟩ := hv
  refine (signed_m neg a _ c (by have := digsL_len_le hN; omega) w).mono ?_
  rintro e w' ⟨rfl, hB⟩
  have e1 : (sgn neg N).natAbs = N := by unfold sgn; split <;> omega
  refine ⟨⟨_, rfl, a, c, ?_, ?_, ?_⟩, hB⟩
  · rw [e1]
    congr 3
    rw [digsL_pos_len]
    unfold sgn
    cases neg <;> simp
  · rw [e1]; exact h1
  · rw [e1]; exact h2.via hB
/-- The contracts of the magnitudes' functions, by values. -/
theorem big_len {X : Nat} (h : X < 10000 ^ 250) : (digsL 10000 X).length ≤ 250 := digsL_len_le h
theorem mplus (X Y : Nat) (hX : X < 10000 ^ 250) (hY : Y < 10000 ^ 250) (u v : Value) (w : World) (hu : MagAt w u (digsL 10000 X)) (hv : MagAt w v (digsL 10000 Y)) :
    Calls Tryz.prog 54 #[u, v] w fun e w' => (∃ r, e = .returned r ∧ MagAt w' r (digsL 10000 (X + Y))) ∧ Below w.heap.size w w' := by
  obtain ⟨a, ca, rfl, hra, hca⟩ := hu
  obtain ⟨b, cb, rfl, hrb, hcb⟩ := hv
  have := plus_any (digsL 10000 X) (digsL 10000 Y) (digsL_dig (by decide) _) (digsL_dig (by decide) _) (by have := big_len hX; omega) (by have := big_len hY; omega) a b ca cb w hra hrb hca hcb
  rw [leV_digsL (by decide), leV_digsL (by decide)] at this
  exact this.mono fun e w' ⟨⟨v, h1, h2⟩, h3⟩ => ⟨⟨v, h1, h2.mag⟩, h3⟩
theorem mminus (X Y : Nat) (hX : X < 10000 ^ 250) (hle : Y ≤ X) (u v : Value) (w : World) (hu : MagAt w u (digsL 10000 X)) (hv : MagAt w v (digsL 10000 Y)) :
    Calls Tryz.prog 56 #[u, v] w fun e w' => (∃ r, e = .returned r ∧ MagAt w' r (digsL 10000 (X - Y))) ∧ Below w.heap.size w w' := by
  obtain ⟨a, ca, rfl, hra, hca⟩ := hu
  obtain ⟨b, cb, rfl, hrb, hcb⟩ := hv
  have hlen : (digsL 10000 Y).length ≤ (digsL 10000 X).length := digsL_len_le (Nat.lt_of_le_of_lt hle (by have := leV_lt (digsL_dig (B := 10000) (by decide) X); rwa [leV_digsL (by decide)] at this))
  have := minus_any (digsL 10000 X) (digsL 10000 Y) (digsL_dig (by decide) _) (digsL_dig (by decide) _) (by have := big_len hX; omega) hlen (by rw [leV_digsL (by decide), leV_digsL (by decide)]; exact hle) a b ca cb w hra hrb hca hcb
  rw [leV_digsL (by decide), leV_digsL (by decide)] at this
  exact this.mono fun e w' ⟨⟨v, h1, h2⟩, h3⟩ => ⟨⟨v, h1, h2.mag⟩, h3⟩
theorem mtimes (X Y : Nat) (hX : X < 10000 ^ 250) (hY : Y < 10000 ^ 250) (u v : Value) (w : World) (hu : MagAt w u (digsL 10000 X)) (hv : MagAt w v (digsL 10000 Y)) :
    Calls Tryz.prog 58 #[u, v] w fun e w' => (∃ r, e = .returned r ∧ MagAt w' r (digsL 10000 (X * Y))) ∧ Below w.heap.size w w' := by
  obtain ⟨a, ca, rfl, hra, hca⟩ := hu
  obtain ⟨b, cb, rfl, hrb, hcb⟩ := hv
  have := times_any (digsL 10000 X) (digsL 10000 Y) (digsL_dig (by decide) _) (digsL_dig (by decide) _) (by have := big_len hX; omega) (by have := big_len hY; omega) a b ca cb w hra hrb hca hcb
  rw [leV_digsL (by decide), leV_digsL (by decide)] at this
  exact this.mono fun e w' ⟨⟨v, h1, h2⟩, h3⟩ => ⟨⟨v, h1, h2.mag⟩, h3⟩
theorem mcmp (X Y : Nat) (hX : X < 10000 ^ 250) (hY : Y < 10000 ^ 250) (u v : Value) (w : World) (hu : MagAt w u (digsL 10000 X)) (hv : MagAt w v (digsL 10000 Y)) :
    Calls Tryz.prog 55 #[u, v] w fun e w' => e = .returned (.int .i64 (cmpI (X : Nat) (Y : Nat))) ∧ Below w.heap.size w w' := by
  obtain ⟨a, ca, rfl, hra, hca⟩ := hu
  obtain ⟨b, cb, rfl, hrb, hcb⟩ := hv
  have := compare_any (digsL 10000 X) (digsL 10000 Y) (digsL_dig (by decide) _) (digsL_dig (by decide) _) (digsL_norm (by decide) _) (digsL_norm (by decide) _) (by have := big_len hX; omega) (by have := big_len hY; omega) a b ca cb w hra hrb hca hcb
  rwa [leV_digsL (by decide), leV_digsL (by decide)] at this
theorem mdiv (X Y : Nat) (hX : X < 10000 ^ 250) (hY : Y < 10000 ^ 250) (h0 : 0 < Y) (u v : Value) (w : World) (hu : MagAt w u (digsL 10000 X)) (hv : MagAt w v (digsL 10000 Y)) :
    Calls Tryz.prog 59 #[u, v] w fun e w' => (∃ q r, e = .returned (.tuple #[q, r]) ∧ MagAt w' q (digsL 10000 (X / Y)) ∧ MagAt w' r (digsL 10000 (X % Y))) ∧ Below w.heap.size w w' := by
  have := div_any (digsL 10000 X) (digsL 10000 Y) (digsL_dig (by decide) _) (digsL_dig (by decide) _) (digsL_norm (by decide) _) (digsL_norm (by decide) _) (fun e => by have := digsL_nil e; omega) (by have := big_len hX; omega) (by have := big_len hY; omega) u v w hu hv
  rwa [leV_digsL (by decide), leV_digsL (by decide)] at this
theorem mdigits (X : Nat) (hX : X < 10000 ^ 250) (v : Value) (w : World) (hv : MagAt w v (digsL 10000 X)) :
    Calls Tryz.prog 60 #[v] w fun e w' => e = .returned (.string ⟨(natT X).toArray⟩) ∧ Below w.heap.size w w' := by
  have := digits_any (digsL 10000 X) (digsL_dig (by decide) _) (digsL_norm (by decide) _) (by have := big_len hX; omega) v w hv
  rwa [leV_digsL (by decide)] at this

/-- Two numbers in boxes, and the box of the result. -/
structure Box3 (w W : World) (x1 x2 y1 y2 : Value) : Prop where
  a1 : W.cell? ⟨w.heap.size, 0, none⟩ = some x1
  a2 : W.cell? ⟨w.heap.size, 1, none⟩ = some x2
  b1 : W.cell? ⟨w.heap.size + 1, 0, none⟩ = some y1
  b2 : W.cell? ⟨w.heap.size + 1, 1, none⟩ = some y2
  r : W.heap[w.heap.size + 1 + 1]? = some (.cells #[.bool false, .slice none 0 0] 47 (0, 0))
  bel : Below w.heap.size w W
theorem alloc_below (w : World) (o : Obj) : Below w.heap.size w (w.alloc o) := (Below.refl _ _).alloc (Nat.le_refl _) _
theorem alloc_size (w : World) (o : Obj) : (w.alloc o).heap.size = w.heap.size + 1 := by simp
theorem box3_made (w : World) (x1 x2 y1 y2 : Value) : Box3 w (((w.alloc (.cells #[x1, x2] 47)).alloc (.cells #[y1, y2] 47)).alloc (.cells #[.bool false, .slice none 0 0] 47)) x1 x2 y1 y2 := by
  have h1 := heap_alloc_new w (.cells #[x1, x2] 47)
  have b1 := alloc_below w (.cells #[x1, x2] 47)
  have s1 := alloc_size w (.cells #[x1, x2] 47)
  generalize w.alloc (.cells #[x1, x2] 47) = w1 at *
  have h2 := heap_alloc_new w1 (.cells #[y1, y2] 47)
  have b2 := alloc_below w1 (.cells #[y1, y2] 47)
  have s2 := alloc_size w1 (.cells #[y1, y2] 47)
  generalize w1.alloc (.cells #[y1, y2] 47) = w2 at *
  have h3 := heap_alloc_new w2 (.cells #[.bool false, .slice none 0 0] 47)
  have b3 := alloc_below w2 (.cells #[.bool false, .slice none 0 0] 47)
  generalize w2.alloc (.cells #[.bool false, .slice none 0 0] 47) = w3 at *
  rw [s1] at h2
  rw [s2, s1] at h3
  exact ⟨keptBelow b3 (keptBelow b2 ((cell_of_row w1 _ 0 _ _ _ h1).trans rfl)), keptBelow b3 (keptBelow b2 ((cell_of_row w1 _ 1 _ _ _ h1).trans rfl)), keptBelow b3 ((cell_of_row w2 _ 0 _ _ _ h2).trans rfl), keptBelow b3 ((cell_of_row w2 _ 1 _ _ _ h2).trans rfl), h3, belowVia b3 (belowVia b2 b1)⟩
theorem heap_below {w w' : World} {g : Nat} {o : Obj} (hB : Below w.heap.size w w') (h : w.heap[g]? = some o) : w'.heap[g]? = some o := (hB.block g (Array.getElem?_eq_some_iff.1 h).1).trans h
theorem Box3.via {w W W' : World} {x1 x2 y1 y2 : Value} (hB : Below W.heap.size W W') (h : Box3 w W x1 x2 y1 y2) : Box3 w W' x1 x2 y1 y2 :=
  ⟨keptBelow hB h.a1, keptBelow hB h.a2, keptBelow hB h.b1, keptBelow hB h.b2, heap_below hB h.r, belowVia hB h.bel⟩
/-- What a store to the box of the result leaves. -/
theorem Box3.res {w W : World} {x1 x2 y1 y2 r1 r2 : Value} (h : Box3 w W x1 x2 y1 y2) : ((W.setCell ⟨w.heap.size + 1 + 1, 0, none⟩ r1).setCell ⟨w.heap.size + 1 + 1, 1, none⟩ r2).heap[w.heap.size + 1 + 1]? = some (.cells #[r1, r2] 47 (0, 0)) := by
  have h1 := heap_setCell_same W _ 0 _ _ r1 h.r
  exact heap_setCell_same _ _ 1 _ _ r2 h1
theorem cell_o {w : World} {g b i j : Nat} {v x : Value} (h : w.cell? ⟨b, j, none⟩ = some x) (hne : g ≠ b) : (w.setCell ⟨g, i, none⟩ v).cell? ⟨b, j, none⟩ = some x := by
  rw [World.cell?_setCell_other _ _ _ _ (fun e => hne (congrArg Addr.block e))]; exact h
theorem cell_o2 {w : World} {b j p : Nat} {v v2 x : Value} (h : w.cell? ⟨b, j, none⟩ = some x) (hne : b < p) : ((w.setCell ⟨p, 0, none⟩ v).setCell ⟨p, 1, none⟩ v2).cell? ⟨b, j, none⟩ = some x := cell_o (cell_o h (by omega)) (by omega)
theorem cells_res {w : World} {a : Option Addr} {l : List Int} {p : Nat} {b : Bool} {x : Option Addr} {n c : Nat} {t : TypeId} {v v2 : Value} (h : CellsAt w a l) (hp : w.heap[p]? = some (.cells #[.bool b, .slice x n c] t (0, 0))) : CellsAt ((w.setCell ⟨p, 0, none⟩ v).setCell ⟨p, 1, none⟩ v2) a l := by
  rcases h with h | ⟨g, o, h1, h2⟩
  · exact .inl h
  · refine .inr ⟨g, o, h1, fun j hj => ?_⟩
    have h3 := h2 j hj
    have hne : p ≠ g := by
      rintro rfl
      rw [cell_of_row w p (o + j) _ _ _ hp] at h3
      rcases Nat.lt_or_ge (o + j) 2 with h4 | h4
      · rcases (show o + j = 0 ∨ o + j = 1 by omega) with h5 | h5 <;> rw [h5] at h3 <;> simp at h3
      · rw [Array.getElem?_eq_none (by simpa using h4)] at h3; cases h3
    exact cell_o (cell_o h3 hne) hne
theorem below_res {B : Nat} {a w : World} (h : Below B a w) {p : Nat} (hp : B ≤ p) (v v2 : Value) : Below B a ((w.setCell ⟨p, 0, none⟩ v).setCell ⟨p, 1, none⟩ v2) := (h.setCell (p := ⟨p, 0, none⟩) hp v).setCell (p := ⟨p, 1, none⟩) hp v2
theorem mag_of_num {w : World} {a : Option Addr} {c N : Nat} (h1 : Room (digsL 10000 N).length c) (h2 : CellsAt w a (ofN (digsL 10000 N))) : MagAt w (.slice a (digsL 10000 N).length c) (digsL 10000 N) := ⟨a, c, rfl, h1, h2⟩
set_option maxRecDepth 100000 in
set_option maxHeartbeats 4000000 in
theorem plus_same (x y : Int) (hx : x.natAbs < 10000 ^ 120) (hy : y.natAbs < 10000 ^ 120) (hs : (x < 0) ↔ (y < 0)) (u v : Value) (w : World) (hu : NumAt w u x) (hv : NumAt w v y)  :
    Calls Tryz.prog 29 #[u, v] w fun e w' => (∃ r, e = .returned r ∧ NumAt w' r (x + y)) ∧ Below w.heap.size w w' := by
  obtain ⟨a, ca, rfl, hra, hca⟩ := hu
  obtain ⟨b, cb, rfl, hrb, hcb⟩ := hv
  obtain ⟨sx, hsx⟩ : ∃ sx, sx = decide (x < 0) := ⟨_, rfl⟩
  have hsy : decide (y < 0) = sx := by rw [hsx]; simp [hs]
  have hu := mag_of_num hra hca
  have hv := mag_of_num hrb hcb
  have up : ∀ {n : Nat}, n < 10000 ^ 120 → n < 10000 ^ 250 := fun h => Nat.lt_of_lt_of_le h (Nat.pow_le_pow_right (by decide) (by decide))
  have HP := Lib.hid (fun W hu hv => mplus x.natAbs y.natAbs (up hx) (up hy) _ _ W (MagAt.via hu (mag_of_num hra hca)) (MagAt.via hv (mag_of_num hrb hcb)))
  have hN : x.natAbs + y.natAbs < 10000 ^ 250 := Nat.lt_of_lt_of_le (show _ < 10000 ^ 121 by rw [Nat.pow_succ]; omega) (Nat.pow_le_pow_right (by decide) (by decide))
  have HS := Lib.hid (fun sv W hm => signed_any sx (x.natAbs + y.natAbs) sv W hN hm)
  have hz : sgn sx (x.natAbs + y.natAbs) = x + y := by
    unfold sgn
    rw [hsx]
    by_cases h : x < 0
    · have := hs.1 h; simp [h]; omega
    · have : ¬ y < 0 := fun k => h (hs.2 k)
      simp [h]; omega
  rw [hz] at HS
  rw [← hsx, hsy]
  clear hsx hsy hu hv hN hz hs
  generalize (digsL 10000 x.natAbs).length = n at *
  generalize (digsL 10000 y.natAbs).length = m at *
  go_enter Tryz.func29, Tryz.ntmps29
  go_wp2_with fail
  have hbx := box3_made w (.bool sx) (.slice a n ca) (.bool sx) (.slice b m cb)
  generalize World.alloc (World.alloc _ _) _ = W at hbx ⊢
  have ha1 := hbx.a1
  have ha2 := hbx.a2
  have hb2 := hbx.b2
  have HBX := Lib.hid hbx
  clear hbx
  go_region_held3 (fun w' => w'.cell? ⟨w.heap.size, 0, none⟩ = some (.bool sx) ∧ w'.cell? ⟨w.heap.size, 1, none⟩ = some (.slice a n ca) ∧ w'.cell? ⟨w.heap.size + 1, 1, none⟩ = some (.slice b m cb)) (first | exact ⟨ha1, ha2, hb2⟩ | exact ⟨keptBelow hB1 ha1, keptBelow hB1 ha2, keptBelow hB1 hb2⟩ | exact ⟨keptBelow hB2 (keptBelow hB1 ha1), keptBelow hB2 (keptBelow hB1 ha2), keptBelow hB2 (keptBelow hB1 hb2)⟩ | exact ⟨cell_o2 hbx2.a1 (by omega), cell_o2 hbx2.a2 (by omega), cell_o2 hbx2.b2 (by omega)⟩) (first
    | (go_at_call 54; (with_reducible refine (HP.out _ ?_ ?_).mono ?_); exact HBX.out.bel.drew; exact HBX.out.bel.drew; rintro e w1 ⟨⟨r1, rfl, hm1⟩, hB1⟩)
    | (go_at_call 44; (with_reducible refine (HS.out _ _ ?_).mono ?_); exact hm1; rintro e w2 ⟨⟨r2, rfl, hn2⟩, hB2⟩; obtain ⟨a9, c9, rfl, hr9, hc9⟩ := hn2; have hB3 := HBX.out.via (undrew hB1); have hbx2 := hB3.via hB2; have hq1 := (cell_of_row w2 _ 0 _ _ _ hbx2.r).trans rfl; have hq2 := (cell_of_row w2 _ 1 _ _ _ hbx2.r).trans rfl; have hf1 := frozen_of_row w2 _ 0 _ _ hbx2.r; have hf2 := frozen_of_row w2 _ 1 _ _ hbx2.r))
  go_wp2_with fail
  refine bodyPost_ret (results_n rfl _ _ (w.heap.size + 1 + 1) _ _ rfl hbx2.res) rfl ?_
  exact ⟨⟨_, rfl, a9, c9, rfl, hr9, cells_res hc9 hbx2.r⟩, below_res hbx2.bel (by omega) _ _⟩
end Go.Proofs.YtggkbeppfpgkaaaGreatDoor
