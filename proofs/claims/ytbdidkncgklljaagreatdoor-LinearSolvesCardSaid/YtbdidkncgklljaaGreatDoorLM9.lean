/- Several texts of layers 3 and 4, one behind the other: LinMade, IntTen, IntRefKit, IntRefPlus, IntRefDiv, IntRefRead, IntRefOps, IntRefInts. -/
import Derived.StillTailTactics
import Derived.Test.YtbdidkncgklljaaGreatDoorLM8
/- LinMade: The contract of the reference's Made. -/
namespace Go.Proofs.YtbdidkncgklljaaGreatDoor
open Go.RowKit Putlog

theorem info_sysN : (Tryz.prog.info? 27).map (·.size) = some 2 := by kernel_rfl
theorem inf_eqn : (Tryz.prog.info? 60).map (fun i => (i.zero, i.size, i.bytes)) = some (some (.agg #[.slice none 0 0, .int .i64 0]), 2, 32) := by kernel_rfl
def numV (x : NumX) (a b : Option Addr) (c d : Nat) : List Value := [.int .i64 x.cols, .int .i64 x.rows, .slice a x.coefs.length c, .slice b x.hidden.length d, .int .i64 x.miss]
def coefsV (x : NumX) (i j : Nat) : List Value := intsV ((List.range j).map (coefX x i))
/-- What Made has made under way: k rows; N: the blocks that stand. -/
structure MadeO (x : NumX) (a b : Option Addr) (c d : Nat) (W : World) (k N : Nat) (wr : World) : Prop where
  ex : ∃ L v, L.map RowX.p = (List.range k).map (rowX x) ∧ SysO (W.heap.size + 3) wr L v ∧ LtN N L v ∧ BlkB 27 (W.heap.size + 2) [.int .i64 (x.n : Nat), v] wr
  xb : BlkB 24 W.heap.size (numV x a b c d) wr
  res : BlkB 27 (W.heap.size + 1) [.int .i64 0, .slice none 0 0] wr
  below : Below W.heap.size W wr
  size : W.heap.size + 3 ≤ N
  here : N ≤ wr.heap.size
theorem MadeO.keep {x : NumX} {a b : Option Addr} {c d : Nat} {W : World} {k N : Nat} {w w' : World} (h : MadeO x a b c d W k N w) (hk : KeepN N w w') (hB : Below W.heap.size W w') (hs : w.heap.size ≤ w'.heap.size) : MadeO x a b c d W k N w' := by
  obtain ⟨L, v, h1, h2, h3, h4⟩ := h.ex
  have hz := h.size
  exact ⟨⟨L, v, h1, h2.keepN h3 hk, h3, hk.blk h4 (by omega)⟩, hk.blk h.xb (by omega), hk.blk h.res (by omega), hB, h.size, Nat.le_trans h.here hs⟩
theorem MadeO.via {x : NumX} {a b : Option Addr} {c d : Nat} {W : World} {k N : Nat} {w w' : World} (h : MadeO x a b c d W k N w) (hB : Below w.heap.size w w') : MadeO x a b c d W k N w' := h.keep (KeepN.below hB h.here) (belowVia hB h.below) hB.size
theorem MadeO.set {x : NumX} {a b : Option Addr} {c d : Nat} {W : World} {k N : Nat} {w : World} (h : MadeO x a b c d W k N w) {p : Nat} (hp : N ≤ p) (i : Nat) (v : Value) : MadeO x a b c d W k N (w.setCell ⟨p, i, none⟩ v) :=
  h.keep (KeepN.set w hp i v) (h.below.setCell (p := ⟨p, i, none⟩) (by have := h.size; show W.heap.size ≤ p; omega) v) (by rw [World.size_setCell]; exact Nat.le_refl _)
theorem MadeO.grown {x : NumX} {a b : Option Addr} {c d : Nat} {W : World} {k N : Nat} {w w' : World} (h : MadeO x a b c d W k N w) {o : Option Nat} (hg : w.grownBy w' o) (ho : ∀ g, o = some g → N ≤ g) : MadeO x a b c d W k N w' :=
  h.keep (KeepN.grown hg h.here ho) (h.below.grown hg (Nat.le_trans (by have := h.size; omega) h.here) (fun g e => by have := ho g e; have := h.size; omega)) hg.size
theorem MadeO.top {x : NumX} {a b : Option Addr} {c d : Nat} {W : World} {k N M : Nat} {w : World} (h : MadeO x a b c d W k N w) (hN : N ≤ M) (hM : M ≤ w.heap.size) : MadeO x a b c d W k M w := by
  obtain ⟨L, v, h1, h2, h3, h4⟩ := h.ex
  exact ⟨⟨L, v, h1, h2, ⟨fun k e => by have := h3.1 k e; omega, fun r hr k e => by have := h3.2 r hr k e; omega⟩, h4⟩, h.xb, h.res, h.below, by have := h.size; omega, hM⟩
theorem owns_belowR {w w' : World} {base e size n : Nat} {v : Value} {xs : List Value} (h : w.ownsRow base e size v n xs) (hB : Below w.heap.size w w') : w'.ownsRow base e size v n xs := own_keep h (fun k hk => hB.block k (own_lt h k hk).2)
theorem BlkB.other {t : TypeId} {p q i : Nat} {l : List Value} {v : Value} {w : World} (h : BlkB t p l w) (hpq : p ≠ q) : BlkB t p l (w.setCell ⟨q, i, none⟩ v) := (heap_setCell_other _ _ _ _ (by show p ≠ q; exact hpq)).trans h
theorem news_two (w : World) (u z : Value) (t : TypeId) : ∀ j y, [u, z][j]? = some y → (w.alloc (.cells #[u, z] t)).cell? ((⟨w.heap.size, 0, none⟩ : Addr).add j) = some y
  | 0, y, h => by
    simp at h; subst h
    exact (cell_of_row _ w.heap.size 0 _ t (0, 0) (heap_alloc_new w _)).trans rfl
  | 1, y, h => by
    simp at h; subst h
    exact (cell_of_row _ w.heap.size 1 _ t (0, 0) (heap_alloc_new w _)).trans rfl
  | j + 2, y, h => by simp at h
theorem one_two (a : Option Addr) (n c : Nat) (z : Int) : ∀ u ∈ [Value.slice a n c, .int .i64 z], u.oneCell' = true := by intro u hu; simp at hu; rcases hu with rfl | rfl <;> rfl
theorem coefsV_snoc (x : NumX) (i j : Nat) : coefsV x i (j + 1) = coefsV x i j ++ [.int .i64 (coefX x i j)] := by unfold coefsV intsV; rw [List.range_succ, List.map_append, List.map_append]; rfl
theorem coefsV_len (x : NumX) (i j : Nat) : (coefsV x i j).length = j := by simp [coefsV, intsV]
theorem sumX_succ (x : NumX) (i j : Nat) : sumX x i (j + 1) = sumX x i j + coefX x i j * hidX x j := rfl
theorem idx_facts {k n j : Nat} (hk : k ≤ 5) (hn : n ≤ 8) (hj : j < n) : ∃ q t : Nat, t = k * n + j ∧ wrap64 ((k : Int) * (n : Int)) = (q : Nat) ∧ wrap64 ((q : Int) + (j : Int)) = (t : Nat) ∧ (t : Int) ≤ 1000000 ∧ (j : Int) ≤ 1000000 := by
  have hqb : k * n ≤ 40 := Nat.mul_le_mul hk hn
  have hqi : ((k * n : Nat) : Int) = (k : Int) * (n : Int) := Int.natCast_mul _ _
  refine ⟨k * n, k * n + j, rfl, ?_, ?_, by omega, by omega⟩
  · rw [← hqi]; unfold wrap64; omega
  · unfold wrap64; omega
theorem col_facts (x : NumX) (k j : Nat) {ac ah : Int} (hj : j < 8) (h1 : coefX x k j = pkN ac 19 - 9) (h2 : hidX x j = pkN ah 6) : ∃ pr, sumX x k (j + 1) = sumX x k j + pr ∧ wrap64 (pkN ac 19 - 9) = coefX x k j ∧ wrap64 (coefX x k j * pkN ah 6) = pr ∧ IntKind.i64.wrap (coefX x k j * pkN ah 6) = pr ∧ IntKind.i64.wrap (sumX x k j + pr) = sumX x k j + pr ∧ wrap64 (sumX x k j + pr) = sumX x k j + pr := by
  obtain ⟨c0, c1⟩ := coefX_bounds x k j
  obtain ⟨g0, g1⟩ := hidX_bounds x j
  obtain ⟨p0, p1⟩ := mul_95 c0 c1 g0 g1
  obtain ⟨s0, s1⟩ := sumX_bounds x k j
  refine ⟨coefX x k j * hidX x j, rfl, ?_, ?_, ?_, ?_, ?_⟩
  · rw [← h1]; unfold wrap64; omega
  · rw [← h2]; unfold wrap64; omega
  · rw [← h2, IntKind.wrap_i64]; omega
  · rw [IntKind.wrap_i64]; omega
  · unfold wrap64; omega
theorem off_facts (x : NumX) (k : Nat) {ms : Int} (h : ms = x.miss) (hm : I64 ms) : IntKind.i64.wrap (ms.tdiv 3) = ms.tdiv 3 ∧ wrap64 (ms.tdiv 3) = ms.tdiv 3 ∧ IntKind.i64.wrap (ms.tdiv 30) = ms.tdiv 30 ∧ wrap64 (ms.tdiv 30) = ms.tdiv 30 ∧ (missX x = false → offX x k = 0) ∧
    (((k : Int) == pkN (ms.tdiv 3) x.m) = false → offX x k = 0) ∧ (missX x = true → ((k : Int) == pkN (ms.tdiv 3) x.m) = true → offX x k = pkN (ms.tdiv 30) 41 - 20) := by
  have h3 := tdiv_ok (k := 3) (by decide) hm
  have h30 := tdiv_ok (k := 30) (by decide) hm
  unfold I64 at h3 h30
  subst h
  refine ⟨by rw [IntKind.wrap_i64]; omega, by unfold wrap64; omega, by rw [IntKind.wrap_i64]; omega, by unfold wrap64; omega, fun h => ?_, fun h => ?_, fun h h' => ?_⟩
  · unfold offX; rw [if_neg (by simp [h])]
  · unfold offX; rw [if_neg]; rintro ⟨_, e⟩; simp [e] at h
  · unfold offX; rw [if_pos ⟨h, by simpa using h'⟩]
theorem val_facts (x : NumX) (k : Nat) {q : Int} (hq : 0 ≤ q ∧ q < 41) (h : offX x k = q - 20) : IntKind.i64.wrap (sumX x k x.n + q) = sumX x k x.n + q ∧ wrap64 (sumX x k x.n + q) = sumX x k x.n + q ∧ IntKind.i64.wrap (sumX x k x.n + q - 20) = sumX x k x.n + offX x k ∧ wrap64 (sumX x k x.n + q - 20) = sumX x k x.n + offX x k := by
  have h1 := sumX_bounds x k x.n
  have h2 := x.n_bounds
  refine ⟨by rw [IntKind.wrap_i64]; omega, by unfold wrap64; omega, by rw [IntKind.wrap_i64]; omega, by unfold wrap64; omega⟩
/-- The row is added. -/
theorem MadeO.push {x : NumX} {a b : Option Addr} {c d : Nat} {W w w9 : World} {k rb n : Nat} {vr : Value} {o : Obj} (h : MadeO x a b c d W k rb w) (hr : w.ownsRow (rb + 1) 3 1 vr n (coefsV x k n)) (hn : n = x.n) {L : List RowX} {v v' : Value}
    (hL : L.map RowX.p = (List.range k).map (rowX x)) (hO : SysO (W.heap.size + 3) w L v) (hlt : LtN rb L v)
    (hown : w9.ownsRow (W.heap.size + 3) 60 2 v' (L.length + 1) (rowsU L ++ [vr, .int .i64 (sumX x k n + offX x k)])) (hg : (w.alloc o).grownBy w9 v.ownBlock) :
    MadeO x a b c d W (k + 1) w9.heap.size (w9.setCell ⟨W.heap.size + 2, 1, none⟩ v') := by
  have hal := alloc_belowL w o
  have hz := h.size
  have hz2 := h.here
  have hvb : ∀ g, v.ownBlock = some g → W.heap.size + 3 ≤ g ∧ g < rb := fun g e => ⟨(own_lt hO.top g e).1, hlt.1 g e⟩
  have hk0 : KeepN (W.heap.size + 3) w w9 := (KeepN.below hal (by omega)).trans (KeepN.grown hg (by have := hal.size; omega) (fun g e => (hvb g e).1))
  have hB9 : Below W.heap.size W w9 := (belowVia hal h.below).grown hg (by have := hal.size; omega) (fun g e => by have := hvb g e; omega)
  have hs9 : w.heap.size ≤ w9.heap.size := Nat.le_trans hal.size hg.size
  obtain ⟨L0, v0, e1, e2, e3, e4⟩ := h.ex
  obtain ⟨ra, rc, f1, f2, f3, f4, f5⟩ := owns_ints (by simp : n = ((List.range n).map (coefX x k)).length) hr
  have hR : hO = hO := rfl
  obtain ⟨r, hr1, hr2, hr3⟩ : ∃ r : RowX, r.v = vr ∧ r.coef = (List.range n).map (coefX x k) ∧ r.val = sumX x k n + offX x k := ⟨⟨(List.range n).map (coefX x k), sumX x k n + offX x k, ra, rc⟩, by unfold RowX.v; rw [f1]; simp, rfl, rfl⟩
  have hrl : r.coef.length = n := by rw [hr2]; simp
  have hp : r.p = rowX x k := by unfold RowX.p rowX; rw [hr2, hr3, hn]
  have hre : rowU r = [vr, .int .i64 (sumX x k n + offX x k)] := by unfold rowU; rw [hr1, hr3]
  have hro : (w.alloc o).ownsRow (rb + 1) 3 1 r.v r.coef.length (intsV r.coef) := by rw [hr1, hrl, hr2]; exact hr.alloc o
  have hS := (hO.via hal).push (r := r) (own_base hro (by omega)) (fun q hq g e1 e2 => by
    have := hlt.2 q hq g e1
    have := (own_lt hro g e2).1
    omega) (by rw [hre]; exact hown) hg
  refine ⟨⟨L ++ [r], v', by rw [List.map_append, hL, List.range_succ, List.map_append]; simp [hp], ?_, ?_, ?_⟩, ?_, ?_, hB9.setCell (p := ⟨W.heap.size + 2, 1, none⟩) (by show W.heap.size ≤ W.heap.size + 2; omega) v', by omega, by rw [World.size_setCell]; exact Nat.le_refl _⟩
  · exact hS.keep (fun g e => heap_setCell_other _ _ _ _ (by have := (own_lt hS.top g e).1; show g ≠ W.heap.size + 2; omega)) (fun q hq g e => heap_setCell_other _ _ _ _ (by have := (own_lt (hS.rows q hq) g e).1; show g ≠ W.heap.size + 2; omega))
  · exact hS.lt
  · have h9 := hk0.blk e4 (by omega)
    exact h9.set 1 v'
  · exact ((hk0.blk h.xb (by omega)) : BlkB _ _ _ w9) |> fun hb => (heap_setCell_other _ _ _ _ (by show W.heap.size ≠ W.heap.size + 2; omega)).trans hb
  · exact ((hk0.blk h.res (by omega)) : BlkB _ _ _ w9) |> fun hb => (heap_setCell_other _ _ _ _ (by show W.heap.size + 1 ≠ W.heap.size + 2; omega)).trans hb
set_option maxRecDepth 100000 in
set_option maxHeartbeats 8000000 in
theorem made_c (x : NumX) (a b : Option Addr) (c d : Nat) (W : World) (h : NumM W x a b c d) :
    Calls Tryz.prog 11 #[.agg #[.int .i64 x.cols, .int .i64 x.rows, .slice a x.coefs.length c, .slice b x.hidden.length d, .int .i64 x.miss]] W fun e w' => (∃ L a' c', e = .returned (.agg #[.int .i64 (x.n : Nat), .slice a' x.m c']) ∧ L.map RowX.p = (madeS x).rows ∧ SysO W.heap.size w' L (.slice a' x.m c') ∧ SysM w' (madeS x) a' c') ∧ Below W.heap.size W w' := by
  have HNM := Lib.hid h
  have HP1 := Lib.hid (fun w => rpick_any x.cols 8 h.cols.1 h.cols.2 (by decide) (by decide) w)
  have HP2 := Lib.hid (fun w => rpick_any x.rows 5 h.rows.1 h.rows.2 (by decide) (by decide) w)
  have HMS := Lib.hid (fun w => misses_c x a b c d w h.miss)
  obtain ⟨n, hn⟩ : ∃ n, n = x.n := ⟨_, rfl⟩
  obtain ⟨m, hm⟩ : ∃ m, m = x.m := ⟨_, rfl⟩
  have hn1 := x.n_bounds
  have hm1 := x.m_bounds
  rw [← hn] at hn1 ⊢
  rw [← hm] at hm1 ⊢
  obtain ⟨p1, hp1⟩ : ∃ p, p = pkN x.cols 8 := ⟨_, rfl⟩
  obtain ⟨p2, hp2⟩ : ∃ p, p = pkN x.rows 5 := ⟨_, rfl⟩
  rw [← hp1] at HP1
  rw [← hp2] at HP2
  have hw1 : IntKind.i64.wrap (1 + p1) = (n : Nat) := by
    have := pkN_bounds x.cols (n := 8) (by decide)
    rw [IntKind.wrap_i64, hn]; unfold NumX.n; omega
  have hw2 : IntKind.i64.wrap (1 + p2) = (m : Nat) := by
    have := pkN_bounds x.rows (n := 5) (by decide)
    rw [IntKind.wrap_i64, hm]; unfold NumX.m; omega
  have HNN := Lib.hid hn
  have HMM := Lib.hid hm
  obtain ⟨hn1, hn2⟩ := hn1
  obtain ⟨hm1, hm2⟩ := hm1
  clear h hp1 hp2 hn hm
  have x1 := alloc_belowL W (.cells #[.int .i64 x.cols, .int .i64 x.rows, .slice a x.coefs.length c, .slice b x.hidden.length d, .int .i64 x.miss] 24)
  have y1 : BlkB 24 W.heap.size (numV x a b c d) (W.alloc (.cells #[.int .i64 x.cols, .int .i64 x.rows, .slice a x.coefs.length c, .slice b x.hidden.length d, .int .i64 x.miss] 24)) := heap_alloc_new W _
  have z1 : (W.alloc (.cells #[.int .i64 x.cols, .int .i64 x.rows, .slice a x.coefs.length c, .slice b x.hidden.length d, .int .i64 x.miss] 24)).heap.size = W.heap.size + 1 := by simp
  obtain ⟨ms, hms⟩ : ∃ ms, ms = x.miss := ⟨_, rfl⟩
  obtain ⟨lc, hlc⟩ : ∃ lc, lc = x.coefs.length := ⟨_, rfl⟩
  obtain ⟨lh, hlh⟩ : ∃ lh, lh = x.hidden.length := ⟨_, rfl⟩
  obtain ⟨xc, hxc⟩ : ∃ xc, xc = x.cols := ⟨_, rfl⟩
  obtain ⟨xr, hxr⟩ : ∃ xr, xr = x.rows := ⟨_, rfl⟩
  have HVAL : Hid (numV x a b c d = [.int .i64 xc, .int .i64 xr, .slice a lc c, .slice b lh d, .int .i64 ms]) := Lib.hid (by unfold numV; rw [hms, hlc, hlh, hxc, hxr])
  rw [← hms, ← hlc, ← hlh, ← hxc, ← hxr] at x1 y1 z1 ⊢
  rw [← hms, ← hlc, ← hlh, ← hxc, ← hxr] at HMS
  rw [← hxc] at HP1
  rw [← hxr] at HP2
  have HLC := Lib.hid hlc
  have HLH := Lib.hid hlh
  have HMI := Lib.hid hms
  clear hms hlc hlh hxc hxr
  go_enter Tryz.func11, Tryz.ntmps11
  go_wp2_with fail
  have y2 : BlkB 27 (W.heap.size + 1) [.int .i64 0, .slice none 0 0] ((W.alloc (.cells #[.int .i64 xc, .int .i64 xr, .slice a lc c, .slice b lh d, .int .i64 ms] 24)).alloc (.cells #[.int .i64 0, .slice none 0 0] 27)) := by
    rw [← z1]; exact heap_alloc_new _ _
  have x2 := alloc_belowL (W.alloc (.cells #[.int .i64 xc, .int .i64 xr, .slice a lc c, .slice b lh d, .int .i64 ms] 24)) (.cells #[.int .i64 0, .slice none 0 0] 27)
  have y1 := y1.via x2
  have x2 := belowVia x2 x1
  have z2 : ((W.alloc (.cells #[.int .i64 xc, .int .i64 xr, .slice a lc c, .slice b lh d, .int .i64 ms] 24)).alloc (.cells #[.int .i64 0, .slice none 0 0] 27)).heap.size = W.heap.size + 2 := by simp
  clear x1 z1
  generalize (W.alloc (.cells #[.int .i64 xc, .int .i64 xr, .slice a lc c, .slice b lh d, .int .i64 ms] 24)).alloc (.cells #[.int .i64 0, .slice none 0 0] 27) = w2 at *
  have c1 := y1.cell (i := 1) (by rw [HVAL.out]; rfl : _ = some (.int .i64 xr))
  refine (HP1.out _).mono ?_
  rintro e w3 ⟨rfl, rfl⟩
  clear HP1
  go_wp2_with fail
  refine (HP2.out _).mono ?_
  rintro e w3 ⟨rfl, rfl⟩
  clear HP2 c1
  have x3 := alloc_belowL w2 (.cells #[.int .i64 n, .slice none 0 0] 27)
  have y3 : BlkB 27 (W.heap.size + 2) [.int .i64 n, .slice none 0 0] (w2.alloc (.cells #[.int .i64 n, .slice none 0 0] 27)) := by
    rw [← z2]; exact heap_alloc_new _ _
  have z3 : (w2.alloc (.cells #[.int .i64 n, .slice none 0 0] 27)).heap.size = W.heap.size + 3 := by rw [alloc_sizeL, z2]
  have HM : Hid (MadeO x a b c d W 0 (W.heap.size + 3) (w2.alloc (.cells #[.int .i64 n, .slice none 0 0] 27))) :=
    Lib.hid ⟨⟨[], .slice none 0 0, rfl, SysO.nil _ _, ⟨fun k e => (by cases e), fun r hr => (by simp at hr)⟩, (by rw [← HNN.out]; exact y3)⟩, y1.via x3, y2.via x3, belowVia x3 x2, Nat.le_refl _, by rw [z3]; exact Nat.le_refl _⟩
  clear x2 x3 y1 y2 y3 z2 z3
  go_wp2_with fail
  generalize w2.alloc (.cells #[.int .i64 n, .slice none 0 0] 27) = w3 at *
  go_loopw [5] (fun i wr => ∃ k N : Nat, k ≤ m ∧ i = .int .i64 k ∧ MadeO x a b c d W k N wr) (fun i _ => m - (intOf i).toNat)
  case atStart => exact ⟨0, _, Nat.zero_le _, rfl, HM.out⟩
  case round =>
    clear HM
    obtain ⟨k, N, hk, rfl, hm⟩ := hrel
    have HM := Lib.hid (hm.top hm.here (Nat.le_refl _))
    clear hm
    by_cases hlt : k < m
    · have hlt' : (k : Int) < m := by omega
      have HI1 := Lib.hid HM.out.below
      obtain ⟨rb, hrb⟩ : ∃ rb, rb = wr.heap.size := ⟨_, rfl⟩
      have yr : BlkB 60 rb [.slice none 0 0, .int .i64 0] (wr.alloc (.cells #[.slice none 0 0, .int .i64 0] 60)) := by
        rw [hrb]; exact heap_alloc_new _ _
      have zr : (wr.alloc (.cells #[.slice none 0 0, .int .i64 0] 60)).heap.size = rb + 1 := by rw [alloc_sizeL, hrb]
      have hm := HM.out.via (alloc_belowL wr (.cells #[.slice none 0 0, .int .i64 0] 60))
      rw [← hrb] at hm
      have HM := Lib.hid hm
      have HYR := Lib.hid yr
      have HZR : Hid (rb + 1 ≤ (wr.alloc (.cells #[.slice none 0 0, .int .i64 0] 60)).heap.size) := Lib.hid (Nat.le_of_eq zr.symm)
      clear hm yr zr HI1
      go_wp2_with fail
      rw [← hrb]
      clear hrb
      generalize wr.alloc (.cells #[.slice none 0 0, .int .i64 0] 60) = w4 at *
      go_loopw [7] (fun i w => ∃ j : Nat, ∃ v, j ≤ n ∧ i = .int .i64 j ∧ MadeO x a b c d W k rb w ∧ BlkB 60 rb [v, .int .i64 (sumX x k j)] w ∧ w.ownsRow (rb + 1) 3 1 v j (coefsV x k j) ∧ rb + 1 ≤ w.heap.size) (fun i _ => n - (intOf i).toNat)
      case atStart => exact ⟨0, .slice none 0 0, Nat.zero_le _, rfl, HM.out, HYR.out, World.ownsRow_nil _ _ _ _, HZR.out⟩
      case round =>
        clear HM HYR HZR
        obtain ⟨j, v, hj, rfl, hm, hy, hown, hz⟩ := hrel
        have HM := Lib.hid hm
        have HY := Lib.hid hy
        have HO := Lib.hid hown
        have HZ := Lib.hid hz
        obtain ⟨L, tv, _, _, _, hs⟩ := hm.ex
        have s0 := hs.cell (i := 0) rfl
        have s1 := hs.cell (i := 1) rfl
        rw [← HNN.out] at s0
        have x2 := hm.xb.cell (i := 2) (by rw [HVAL.out]; rfl : _ = some (.slice a lc c))
        have x3 := hm.xb.cell (i := 3) (by rw [HVAL.out]; rfl : _ = some (.slice b lh d))
        have r0 := hy.cell (i := 0) rfl
        have r1 := hy.cell (i := 1) rfl
        have rf0 := hy.froz 0
        have rf1 := hy.froz 1
        clear hm hy hown hz hs
        by_cases hjl : j < n
        · have hjl' : (j : Int) < n := by omega
          obtain ⟨i0, hi0, hz0, hz1, hz2⟩ := info_ex inf_int
          have HI0 := Lib.hid hi0
          have HZ0 := Lib.hid hz0
          have HZ1 := Lib.hid hz1
          have HZ2 := Lib.hid hz2
          obtain ⟨q, t, ht, e1, e2, htb, hjb⟩ := idx_facts (Nat.le_trans hk hm2) hn2 hjl
          have HAC : Hid (∀ w, Below W.heap.size W w → Calls Tryz.prog 36 #[.slice a lc c, .int .i64 t] w fun e w' => e = .returned (.int .i64 (atL x.coefs t)) ∧ w = w') := Lib.hid (fun w hB => by
            have := rat_any x.coefs a c t w (HNM.out.cof.via hB) HNM.out.clen HNM.out.ccap htb
            rw [← HLC.out] at this; exact this)
          have HPC := Lib.hid (fun w => rpick_any (atL x.coefs t) 19 (atL_ok HNM.out.cok t).1 (atL_ok HNM.out.cok t).2 (by decide) (by decide) w)
          have hcf : coefX x k j = pkN (atL x.coefs t) 19 - 9 := by unfold coefX; rw [ht, HNN.out]
          have HAH : Hid (∀ w, Below W.heap.size W w → Calls Tryz.prog 36 #[.slice b lh d, .int .i64 j] w fun e w' => e = .returned (.int .i64 (atL x.hidden j)) ∧ w = w') := Lib.hid (fun w hB => by
            have := rat_any x.hidden b d j w (HNM.out.hid.via hB) HNM.out.hlen HNM.out.hcap hjb
            rw [← HLH.out] at this; exact this)
          have HPH := Lib.hid (fun w => rpick_any (atL x.hidden j) 6 (atL_ok HNM.out.hok j).1 (atL_ok HNM.out.hok j).2 (by decide) (by decide) w)
          obtain ⟨pr, hsn, e3, e4, e5, e6, e7⟩ := col_facts x k j (Nat.lt_of_lt_of_le hjl hn2) hcf rfl
          have HSN := Lib.hid hsn
          have HCN := Lib.hid (coefsV_snoc x k j)
          have HLT : Hid (∀ g, v.ownBlock = some g → rb ≤ g ∧ rb ≠ g) := Lib.hid (fun g hg => by have := (own_lt HO.out g hg).1; exact ⟨Nat.le_trans (Nat.le_succ _) this, Nat.ne_of_lt this⟩)
          have HR1 : Hid (j + 1 ≤ maxLen) := Lib.hid (by unfold maxLen; exact Nat.le_trans hjl (Nat.le_trans hn2 (by decide)))
          have HR2 : Hid ((j + 1) * 8 ≤ 140737488355328) := Lib.hid (Nat.le_trans (Nat.mul_le_mul_right 8 (Nat.le_trans hjl hn2)) (by decide))
          generalize coefX x k j = cf at *
          generalize sumX x k j = sm at *
          generalize atL x.coefs t = ac at *
          generalize atL x.hidden j = ah at *
          generalize pkN ac 19 = p3 at *
          generalize pkN ah 6 = p4 at *
          clear hi0 hz0 hz1 hz2 ht hcf hsn htb hjb
          go_wp2_with fail
          refine (HAC.out _ HM.out.below).mono ?_
          rintro e w5 ⟨rfl, rfl⟩
          go_wp2_with fail
          refine (HPC.out _).mono ?_
          rintro e w5 ⟨rfl, rfl⟩
          clear HAC HPC
          go_wp2_with (go_loud (at_builtin; refine wpList_append_own _ rfl _ _ 22 rfl (rb + 1) 3 i0 (.int .i64 0) 1 8 Tryz.underlying22 HI0.out HZ0.out HZ1.out HZ2.out rfl (by decide) v j (coefsV x k j) (by rfl) (HO.out.alloc _) ⟨wr.heap.size, 0, none⟩ 1 1 [.int .i64 cf] (by rfl) rfl (news_intC _ _ _ rfl) (one_intC _) HR1.out HR2.out (Nat.le_trans HZ.out (alloc_belowL wr (.cells #[.int .i64 cf] 3)).size) ?_; intro v2 w9 hown9 hgrow9 _; have HO9 := Lib.hid hown9; have HM9 := Lib.hid ((HM.out.via (alloc_belowL wr (.cells #[.int .i64 cf] 3))).grown hgrow9 (fun g hg => (HLT.out g hg).1)); have HY9 := Lib.hid (kept_blk hgrow9 (HY.out.via (alloc_belowL wr (.cells #[.int .i64 cf] 3))) (fun g hg => (HLT.out g hg).2)); have HZ9 : Hid (rb + 1 ≤ w9.heap.size) := Lib.hid (Nat.le_trans HZ.out (Nat.le_trans (alloc_belowL wr (.cells #[.int .i64 cf] 3)).size hgrow9.size)); clear hown9 hgrow9; have q0 := HY9.out.cell (i := 0) rfl; have qf := HY9.out.froz 0; obtain ⟨a2, c2, rfl, _⟩ := own_cells HO9.out))
          have HO := Lib.hid (own_set HO9.out (p := rb) (i := 0) (u := .slice a2 (j + 1) c2) (fun g hg => by have := (own_lt HO9.out g hg).1; omega))
          have HM := Lib.hid (HM9.out.set (Nat.le_refl _) 0 (.slice a2 (j + 1) c2))
          have HY := Lib.hid (HY9.out.set 0 (.slice a2 (j + 1) c2))
          have HZ : Hid (rb + 1 ≤ (w9.setCell ⟨rb, 0, none⟩ (.slice a2 (j + 1) c2)).heap.size) := Lib.hid (by rw [World.size_setCell]; exact HZ9.out)
          clear HO9 HM9 HY9 HZ9 q0 qf s0 s1 x2 x3 r0 r1 rf0 rf1 e1 e2 e3
          generalize w9.setCell ⟨rb, 0, none⟩ (.slice a2 (j + 1) c2) = w10 at *
          have x3 := HM.out.xb.cell (i := 3) (by rw [HVAL.out]; rfl : _ = some (.slice b lh d))
          have r1 := HY.out.cell (i := 1) rfl
          go_still_tail 11, (by kernel_rfl)
          still_call ((HAH.out _ HM.out.below.drew).mono (fun e w' h => ⟨h.1, h.2.symm⟩))
          repeat still_step
          still_call ((HPH.out _).mono (fun e w' h => ⟨h.1, h.2.symm⟩))
          repeat still_step
          try refine wpStill_nil ?_
          have hD : Below w10.heap.size w10 w10.drew := (Below.refl w10.heap.size w10).drew
          have HM := Lib.hid (HM.out.via hD)
          have HY := Lib.hid (HY.out.via hD)
          have HO := Lib.hid (owns_belowR HO.out hD)
          have HZ : Hid (rb + 1 ≤ w10.drew.heap.size) := Lib.hid (Nat.le_trans HZ.out hD.size)
          clear hD x3 r1 HAH HPH
          change wpList _ _ _ _ _ w10.drew
          generalize w10.drew = w11 at *
          have r1 := HY.out.cell (i := 1) rfl
          have rf1 := HY.out.froz 1
          go_wp2_with fail
          go_roundw
          case rel =>
            refine ⟨j + 1, _, by omega, by go_num, HM.out.set (Nat.le_refl _) 1 _, by rw [HSN.out]; exact HY.out.set 1 _, by rw [HCN.out]; exact own_set HO.out (fun g hg => by have := (own_lt HO.out g hg).1; omega), by rw [World.size_setCell]; exact HZ.out⟩
          case measure => simp [intOf]; omega
        · obtain rfl : j = n := by omega
          have HMX := Lib.hid (off_facts x k HMI.out (by rw [HMI.out]; exact HNM.out.miss))
          have x0 := HM.out.xb.cell (i := 0) (by rw [HVAL.out]; rfl : _ = some (.int .i64 xc))
          have x1 := HM.out.xb.cell (i := 1) (by rw [HVAL.out]; rfl : _ = some (.int .i64 xr))
          have x4 := HM.out.xb.cell (i := 4) (by rw [HVAL.out]; rfl : _ = some (.int .i64 ms))
          go_wp2_with fail
          refine (HMS.out _).mono ?_
          rintro e w5 ⟨rfl, hB5⟩
          have HM := Lib.hid (HM.out.via hB5)
          have HY := Lib.hid (HY.out.via hB5)
          have HO := Lib.hid (owns_belowR HO.out hB5)
          have HZ : Hid (rb + 1 ≤ w5.heap.size) := Lib.hid (Nat.le_trans HZ.out hB5.size)
          clear hB5 x0 x1 x2 x3 x4 s0 s1 r0 r1 rf0 rf1
          obtain ⟨o1, o2, o3, o4, o5, o6, o7⟩ := HMX.out
          have HMO := Lib.hid o5
          have HMP := Lib.hid o6
          have HMQ := Lib.hid o7
          clear o5 o6 o7
          obtain ⟨q0, q1⟩ := pkN_bounds (ms.tdiv 30) (n := 41) (by decide)
          have HVF := Lib.hid (fun h => val_facts x k (q := pkN (ms.tdiv 30) 41) ⟨q0, q1⟩ h)
          rw [← HNN.out] at HVF
          rw [← HMM.out] at HMP HMQ
          have HPM := Lib.hid (fun w => rpick_any (ms.tdiv 3) m (tdiv_ok (k := 3) (by decide) (by rw [HMI.out]; exact HNM.out.miss)).1 (tdiv_ok (k := 3) (by decide) (by rw [HMI.out]; exact HNM.out.miss)).2 (by omega) (by omega) w)
          have HPO := Lib.hid (fun w => rpick_any (ms.tdiv 30) 41 (tdiv_ok (k := 30) (by decide) (by rw [HMI.out]; exact HNM.out.miss)).1 (tdiv_ok (k := 30) (by decide) (by rw [HMI.out]; exact HNM.out.miss)).2 (by decide) (by decide) w)
          obtain ⟨L, tv, hL, hO, hlt2, hs⟩ := HM.out.ex
          have HL := Lib.hid hL
          have HSO := Lib.hid hO
          have HLT := Lib.hid hlt2
          obtain ⟨ta, tc, rfl, _⟩ := own_cells hO.top
          have HSB := Lib.hid hs
          obtain ⟨va, vc, rfl, _⟩ := own_cells HO.out
          obtain ⟨i0, hi0, hz0, hz1, hz2⟩ := info_ex inf_eqn
          have HI0 := Lib.hid hi0
          have HZ0 := Lib.hid hz0
          have HZ1 := Lib.hid hz1
          have HZ2 := Lib.hid hz2
          have hll : L.length = k := by have := congrArg List.length hL; simpa using this
          have HLL := Lib.hid hll
          clear hi0 hz0 hz1 hz2 hL hO hlt2 hs HMX hll
          obtain ⟨sm, hsm⟩ : ∃ sm, sm = sumX x k j := ⟨_, rfl⟩
          rw [← hsm] at HY HVF
          have HSM := Lib.hid hsm
          clear hsm
          have x4 := HM.out.xb.cell (i := 4) (by rw [HVAL.out]; rfl : _ = some (.int .i64 ms))
          have s1 := HSB.out.cell (i := 1) rfl
          have sf1 := HSB.out.froz 1
          have r0 := HY.out.cell (i := 0) rfl
          have r1 := HY.out.cell (i := 1) rfl
          have rf1 := HY.out.froz 1
          have HR1 : Hid (L.length + 1 ≤ maxLen) := Lib.hid (by rw [HLL.out]; unfold maxLen; exact Nat.le_trans hlt (Nat.le_trans hm2 (by decide)))
          have HR2 : Hid ((L.length + 1) * 32 ≤ 140737488355328) := Lib.hid (by rw [HLL.out]; exact Nat.le_trans (Nat.mul_le_mul_right 32 (Nat.le_trans hlt hm2)) (by decide))
          cases hms : missX x with
          | false =>
            have HVV : Hid (sm = sumX x k j + offX x k) := Lib.hid (by rw [HSM.out, HMO.out hms, Int.add_zero])
            clear HVF hms
            have HR3 : Hid (W.heap.size + 3 ≤ (w5.alloc (.cells #[.slice va j vc, .int .i64 sm] 60)).heap.size) := Lib.hid (Nat.le_trans HM.out.size (Nat.le_trans HM.out.here (alloc_belowL w5 _).size))
            go_wp2_with (go_loud (at_builtin; refine wpList_append_own _ rfl _ _ 25 rfl (W.heap.size + 3) 60 i0 (.agg #[.slice none 0 0, .int .i64 0]) 2 32 Tryz.underlying25 HI0.out HZ0.out HZ1.out HZ2.out rfl (by decide) (.slice ta L.length tc) L.length (rowsU L) (by rfl) (HSO.out.top.alloc _) ⟨w5.heap.size, 0, none⟩ 1 1 [.slice va j vc, .int .i64 sm] (by rfl) rfl (news_two w5 _ _ _) (one_two _ _ _ _) HR1.out HR2.out HR3.out ?_; intro v2 w9 hown9 hgrow9 _; have HO9 := Lib.hid hown9; have HG9 := Lib.hid hgrow9; have HS9 := Lib.hid (kept_blk hgrow9 (HSB.out.via (alloc_belowL w5 (.cells #[.slice va j vc, .int .i64 sm] 60))) (fun g e => by have := (own_lt HSO.out.top g e).1; omega)); clear hown9 hgrow9; have q1 := HS9.out.cell (i := 1) rfl; have qf := HS9.out.froz 1; obtain ⟨a2, c2, rfl, _⟩ := own_cells HO9.out))
            go_roundw
            case rel => exact ⟨k + 1, _, by omega, by go_num, MadeO.push HM.out HO.out HNN.out HL.out HSO.out HLT.out (by rw [← HVV.out]; exact HO9.out) HG9.out⟩
            case measure => simp [intOf]; omega
          | true =>
            cases hkk : ((k : Int) == pkN (ms.tdiv 3) m) with
            | false =>
              have HVV : Hid (sm = sumX x k j + offX x k) := Lib.hid (by rw [HSM.out, HMP.out hkk, Int.add_zero])
              clear HVF hms
              generalize pkN (ms.tdiv 3) m = pm at *
              go_wp2_with fail
              refine (HPM.out _).mono ?_
              rintro e w6 ⟨rfl, rfl⟩
              clear HPM
              have HR3 : Hid (W.heap.size + 3 ≤ (w5.alloc (.cells #[.slice va j vc, .int .i64 sm] 60)).heap.size) := Lib.hid (Nat.le_trans HM.out.size (Nat.le_trans HM.out.here (alloc_belowL w5 _).size))
              go_wp2_with (go_loud (at_builtin; refine wpList_append_own _ rfl _ _ 25 rfl (W.heap.size + 3) 60 i0 (.agg #[.slice none 0 0, .int .i64 0]) 2 32 Tryz.underlying25 HI0.out HZ0.out HZ1.out HZ2.out rfl (by decide) (.slice ta L.length tc) L.length (rowsU L) (by rfl) (HSO.out.top.alloc _) ⟨w5.heap.size, 0, none⟩ 1 1 [.slice va j vc, .int .i64 sm] (by rfl) rfl (news_two w5 _ _ _) (one_two _ _ _ _) HR1.out HR2.out HR3.out ?_; intro v2 w9 hown9 hgrow9 _; have HO9 := Lib.hid hown9; have HG9 := Lib.hid hgrow9; have HS9 := Lib.hid (kept_blk hgrow9 (HSB.out.via (alloc_belowL w5 (.cells #[.slice va j vc, .int .i64 sm] 60))) (fun g e => by have := (own_lt HSO.out.top g e).1; omega)); clear hown9 hgrow9; have q1 := HS9.out.cell (i := 1) rfl; have qf := HS9.out.froz 1; obtain ⟨a2, c2, rfl, _⟩ := own_cells HO9.out))
              go_roundw
              case rel => exact ⟨k + 1, _, by omega, by go_num, MadeO.push HM.out HO.out HNN.out HL.out HSO.out HLT.out (by rw [← HVV.out]; exact HO9.out) HG9.out⟩
              case measure => simp [intOf]; omega
            | true =>
              obtain ⟨v1, v2, v3, v4⟩ := HVF.out (HMQ.out hms hkk)
              obtain ⟨vv, hvv⟩ : ∃ vv, vv = sm + offX x k := ⟨_, rfl⟩
              rw [← hvv] at v3 v4
              have HVV : Hid (vv = sumX x k j + offX x k) := Lib.hid (by rw [hvv, HSM.out])
              clear HVF hms hvv
              generalize pkN (ms.tdiv 3) m = pm at *
              generalize pkN (ms.tdiv 30) 41 = po at *
              go_wp2_with fail
              refine (HPM.out _).mono ?_
              rintro e w6 ⟨rfl, rfl⟩
              clear HPM
              go_wp2_with fail
              go_still_tail 9, (by kernel_rfl)
              still_call ((HPO.out _).mono (fun e w' h => ⟨h.1, h.2.symm⟩))
              repeat still_step
              try refine wpStill_nil ?_
              have hD : Below w5.heap.size w5 w5.drew := (Below.refl w5.heap.size w5).drew
              have HM := Lib.hid (HM.out.via hD)
              have HY := Lib.hid (HY.out.via hD)
              have HO := Lib.hid (owns_belowR HO.out hD)
              have HSO := Lib.hid (HSO.out.via hD)
              have HSB := Lib.hid (HSB.out.via hD)
              clear hD x4 s1 sf1 r0 r1 rf1 HPO
              change wpList _ _ _ _ _ w5.drew
              generalize w5.drew = w6 at *
              have r1 := HY.out.cell (i := 1) rfl
              have rf1 := HY.out.froz 1
              have s1 : (w6.setCell ⟨rb, 1, none⟩ (.int .i64 vv)).cell? ⟨W.heap.size + 2, 1, none⟩ = some (.slice ta L.length tc) := (HSB.out.other (by have := HM.out.size; omega)).cell (i := 1) rfl
              have sf1 : (w6.setCell ⟨rb, 1, none⟩ (.int .i64 vv)).frozen? ⟨W.heap.size + 2, 1, none⟩ = false := (HSB.out.other (by have := HM.out.size; omega)).froz 1
              have t0 : (w6.setCell ⟨rb, 1, none⟩ (.int .i64 vv)).cell? ⟨rb, 0, none⟩ = some (.slice va j vc) := (HY.out.set 1 (.int .i64 vv)).cell (i := 0) rfl
              have t1 : (w6.setCell ⟨rb, 1, none⟩ (.int .i64 vv)).cell? ⟨rb, 1, none⟩ = some (.int .i64 vv) := (HY.out.set 1 (.int .i64 vv)).cell (i := 1) rfl
              have HM := Lib.hid (HM.out.set (Nat.le_refl _) 1 (.int .i64 vv))
              have HO := Lib.hid (own_set HO.out (p := rb) (i := 1) (u := .int .i64 vv) (fun g hg => by have := (own_lt HO.out g hg).1; omega))
              have HSO := Lib.hid (HSO.out.keepN HLT.out (KeepN.set w6 (Nat.le_refl rb) 1 (.int .i64 vv)))
              have HSB : Hid (BlkB 27 (W.heap.size + 2) [.int .i64 (x.n : Nat), .slice ta L.length tc] (w6.setCell ⟨rb, 1, none⟩ (.int .i64 vv))) := Lib.hid (HSB.out.other (by have := HM.out.size; omega))
              have HR3 : Hid (W.heap.size + 3 ≤ ((w6.setCell ⟨rb, 1, none⟩ (.int .i64 vv)).alloc (.cells #[.slice va j vc, .int .i64 vv] 60)).heap.size) := Lib.hid (Nat.le_trans HM.out.size (Nat.le_trans HM.out.here (alloc_belowL (w6.setCell ⟨rb, 1, none⟩ (.int .i64 vv)) _).size))
              go_wp2_with (go_loud (at_builtin; refine wpList_append_own _ rfl _ _ 25 rfl (W.heap.size + 3) 60 i0 (.agg #[.slice none 0 0, .int .i64 0]) 2 32 Tryz.underlying25 HI0.out HZ0.out HZ1.out HZ2.out rfl (by decide) (.slice ta L.length tc) L.length (rowsU L) (by rfl) (HSO.out.top.alloc _) ⟨w6.heap.size, 0, none⟩ 1 1 [.slice va j vc, .int .i64 vv] (by rfl) rfl (by have := news_two (w6.setCell ⟨rb, 1, none⟩ (.int .i64 vv)) (.slice va j vc) (.int .i64 vv) 60; rw [World.size_setCell] at this; exact this) (one_two _ _ _ _) HR1.out HR2.out HR3.out ?_; intro v2 w9 hown9 hgrow9 _; have HO9 := Lib.hid hown9; have HG9 := Lib.hid hgrow9; have HS9 := Lib.hid (kept_blk hgrow9 (HSB.out.via (alloc_belowL (w6.setCell ⟨rb, 1, none⟩ (.int .i64 vv)) (.cells #[.slice va j vc, .int .i64 vv] 60))) (fun g e => by have := (own_lt HSO.out.top g e).1; omega)); clear hown9 hgrow9; have q1 := HS9.out.cell (i := 1) rfl; have qf := HS9.out.froz 1; obtain ⟨a2, c2, rfl, _⟩ := own_cells HO9.out))
              go_roundw
              case rel => exact ⟨k + 1, _, by omega, by go_num, MadeO.push HM.out HO.out HNN.out HL.out HSO.out HLT.out (by rw [← HVV.out]; exact HO9.out) HG9.out⟩
              case measure => simp [intOf]; omega
    · obtain rfl : k = m := by omega
      obtain ⟨L, tv, hL, hO, hlt2, hs⟩ := HM.out.ex
      have hll : L.length = k := by have := congrArg List.length hL; simpa using this
      have hrows : L.map RowX.p = (madeS x).rows := by rw [hL, HMM.out]; rfl
      obtain ⟨a2, c2, hv2, hsm⟩ := hO.sysM (cols := (x.n : Nat)) (by have := x.n_bounds; unfold I64; omega) (fun r hr => by
        have hm : r.p ∈ (madeS x).rows := by rw [← hrows]; exact List.mem_map_of_mem hr
        obtain ⟨i, hi, hp⟩ := made_mem hm
        unfold RowX.p at hp
        have h1 : r.coef = (rowX x i).1 := by rw [← hp]
        have h2 : r.val = (rowX x i).2 := by rw [← hp]
        refine ⟨fun z hz => ?_, ?_⟩
        · rw [h1] at hz; have := rowX_coef hz; unfold I64; omega
        · rw [h2]; have := rowX_val x i; unfold I64; omega)
      rw [hll] at hv2
      subst hv2
      have hsm2 : SysM wr (madeS x) a2 c2 := by
        have : madeS x = ⟨(x.n : Nat), L.map RowX.p⟩ := by rw [hrows]; rfl
        rw [this]; exact hsm
      rw [← HNN.out] at hs
      have s0 := hs.cell (i := 0) rfl
      have s1 := hs.cell (i := 1) rfl
      have hr := HM.out.res
      have t0 := hr.cell (i := 0) rfl
      have t1 := hr.cell (i := 1) rfl
      have tf0 := hr.froz 0
      have tf1 := hr.froz 1
      have hB2 : Below wr.heap.size wr wr := Below.refl _ _
      have HFIN : Hid (SysO W.heap.size ((wr.setCell ⟨W.heap.size + 1, 0, none⟩ (.int .i64 n)).setCell ⟨W.heap.size + 1, 1, none⟩ (.slice a2 k c2)) L (.slice a2 k c2) ∧ SysM ((wr.setCell ⟨W.heap.size + 1, 0, none⟩ (.int .i64 n)).setCell ⟨W.heap.size + 1, 1, none⟩ (.slice a2 k c2)) (madeS x) a2 c2) := Lib.hid (by
        have hk : ∀ g, W.heap.size + 3 ≤ g → ((wr.setCell ⟨W.heap.size + 1, 0, none⟩ (.int .i64 n)).setCell ⟨W.heap.size + 1, 1, none⟩ (.slice a2 k c2)).heap[g]? = wr.heap[g]? := fun g hg =>
          (heap_setCell_other _ _ _ _ (by show g ≠ W.heap.size + 1; omega)).trans (heap_setCell_other _ _ _ _ (by show g ≠ W.heap.size + 1; omega))
        have hS := hO.keep (w' := (wr.setCell ⟨W.heap.size + 1, 0, none⟩ (.int .i64 n)).setCell ⟨W.heap.size + 1, 1, none⟩ (.slice a2 k c2)) (fun g e => hk g (own_lt hO.top g e).1) (fun r hr g e => hk g (own_lt (hO.rows r hr) g e).1)
        refine ⟨hS.base (by omega), ?_⟩
        obtain ⟨a3, c3, hv3, hsm3⟩ := hS.sysM (cols := (x.n : Nat)) (by have := x.n_bounds; unfold I64; omega) (fun r hr => by
          have hm : r.p ∈ (madeS x).rows := by rw [← hrows]; exact List.mem_map_of_mem hr
          obtain ⟨i, hi, hp⟩ := made_mem hm
          unfold RowX.p at hp
          have h1 : r.coef = (rowX x i).1 := by rw [← hp]
          have h2 : r.val = (rowX x i).2 := by rw [← hp]
          refine ⟨fun z hz => ?_, ?_⟩
          · rw [h1] at hz; have := rowX_coef hz; unfold I64; omega
          · rw [h2]; have := rowX_val x i; unfold I64; omega)
        rw [hll] at hv3
        cases hv3
        have : madeS x = ⟨(x.n : Nat), L.map RowX.p⟩ := by rw [hrows]; rfl
        rw [this]; exact hsm3)
      have HBX := Lib.hid HM.out.below
      have HRES := Lib.hid hr
      have HROW := Lib.hid hrows
      clear hL hO hlt2 hs hll hrows hsm hsm2 hr hB2 HM
      go_wp2_with fail
      refine bodyPost_ret (results_cell_row rfl _ _ (W.heap.size + 1) _ _ _ _ rfl ((HRES.out.set 0 (.int .i64 n)).set 1 (.slice a2 k c2)) Tryz.underlying27 rfl info_sysN) rfl ⟨⟨L, a2, c2, rfl, HROW.out, HFIN.out.1, HFIN.out.2⟩, (HBX.out.setCell (by show W.heap.size ≤ W.heap.size + 1; omega) _).setCell (by show W.heap.size ≤ W.heap.size + 1; omega) _⟩
end Go.Proofs.YtbdidkncgklljaaGreatDoor
/- IntTen: Plain mathematics of layer 3: sums, differences, products, quotients and roots digit by digit, as one learns them. Nothing of the program. -/
namespace Putlog

theorem getD_far {l : List Nat} {k : Nat} (h : l.length ≤ k) : l.getD k 0 = 0 := by
  simp [List.getD_eq_getElem?_getD, List.getElem?_eq_none h]
theorem dig_getD {B : Nat} (hB : 0 < B) {l : List Nat} (h : DigB B l) (k : Nat) : l.getD k 0 < B := by
  rcases Nat.lt_or_ge k l.length with hk | hk
  · rw [List.getD_eq_getElem?_getD, List.getElem?_eq_getElem hk, Option.getD_some]; exact h _ (List.getElem_mem _)
  · rw [getD_far hk]; exact hB
theorem ten_take (l : List Nat) (k : Nat) : leV 10 (l.take (k + 1)) = leV 10 (l.take k) + 10 ^ k * l.getD k 0 := by
  rcases Nat.lt_or_ge k l.length with hk | hk
  · have h8 : l.take (k + 1) = l.take k ++ [l.getD k 0] := by rw [List.take_succ_eq_append_getElem hk]; simp [List.getD_eq_getElem?_getD, hk]
    have h9 : (l.take k).length = k := by simp; omega
    rw [h8, leV_snoc, h9]
  · rw [getD_far hk, List.take_of_length_le (by omega), List.take_of_length_le (by omega)]; simp
theorem ten_drop {l : List Nat} {k : Nat} (hk : k < l.length) : leV 10 (l.drop k) = l.getD k 0 + 10 * leV 10 (l.drop (k + 1)) := by
  rw [List.drop_eq_getElem_cons hk, leV]; simp [List.getD_eq_getElem?_getD, hk]
theorem ten_part (l : List Nat) (k : Nat) : leV 10 (l.take k) ≤ leV 10 l := by
  have h := leV_append 10 (l.take k) (l.drop k)
  rw [List.take_append_drop] at h; omega
theorem ten_top {l : List Nat} (hn : Norm l) {k : Nat} (hk : k < l.length) : 10 ^ k ≤ leV 10 l := by
  rcases norm_cases l with rfl | ⟨r, x, rfl⟩
  · simp at hk
  · have h1 := norm_ge (B := 10) (by decide) hn
    have h2 : 10 ^ k ≤ 10 ^ r.length := Nat.pow_le_pow_right (by decide) (by simp at hk; omega)
    omega
theorem ten_set : ∀ (l : List Nat) (i v : Nat), i < l.length → leV 10 (l.set i v) + 10 ^ i * l.getD i 0 = leV 10 l + 10 ^ i * v
  | [], _, _, h => by simp at h
  | x :: l, 0, v, _ => by simp [leV]; omega
  | x :: l, i + 1, v, h => by
    have := ten_set l i v (by simpa using h)
    simp only [List.set_cons_succ, leV, List.getD_cons_succ, Nat.pow_succ]
    rw [Nat.mul_comm (10 ^ i) 10, Nat.mul_assoc, Nat.mul_assoc]; omega
theorem ten_digset {B : Nat} {l : List Nat} (h : DigB B l) (i : Nat) {v : Nat} (hv : v < B) : DigB B (l.set i v) := fun y hy => by
  rcases List.mem_or_eq_of_mem_set hy with hy | hy
  · exact h y hy
  · subst hy; exact hv
theorem setN_get (l : List Nat) (i j v : Nat) (hi : i < l.length) : (l.set i v).getD j 0 = if j = i then v else l.getD j 0 := by
  simp only [List.getD_eq_getElem?_getD, List.getElem?_set]
  by_cases h : i = j
  · subst h; simp [hi]
  · rw [if_neg h, if_neg (fun e => h e.symm)]
theorem digs_of {l : List Nat} {n : Nat} (hd : DigB 10 l) (hn : Norm l) (hv : leV 10 l = n) : l = digsL 10 n := by
  rw [← hv, digsL_leV (by decide) hd hn]
theorem digs_trim {l : List Nat} {n : Nat} (hd : DigB 10 l) (hv : leV 10 l = n) : trimL l = digsL 10 n :=
  digs_of (trimL_dig hd) (trimL_norm l) (by rw [trimL_val]; exact hv)
theorem norm_of_ge {l : List Nat} (hd : DigB 10 l) (h : l = [] ∨ 10 ^ (l.length - 1) ≤ leV 10 l) : Norm l := by
  rcases norm_cases l with rfl | ⟨r, x, rfl⟩
  · exact Norm.nil
  · rcases h with h | h
    · simp at h
    · refine Norm.snoc fun hx => ?_
      subst hx
      rw [leV_snoc] at h
      have := leV_lt hd.left
      simp at h; omega

/-- A sum under way: k digits, and a carry. -/
def PlusT (A B : List Nat) (k : Nat) (out : List Nat) (c : Nat) : Prop :=
  out.length = k ∧ DigB 10 out ∧ leV 10 out + 10 ^ k * c = leV 10 (A.take k) + leV 10 (B.take k) ∧ c ≤ 1 ∧ (k = 0 ∨ 10 ^ (k - 1) ≤ leV 10 A + leV 10 B) ∧ (k ≤ A.length + B.length ∨ (k = A.length + B.length + 1 ∧ c = 0))
theorem PlusT.start (A B : List Nat) : PlusT A B 0 [] 0 := ⟨rfl, DigB.nil _, by simp [leV], by omega, .inl rfl, .inl (by omega)⟩
theorem PlusT.step {A B : List Nat} {k : Nat} {out : List Nat} {c : Nat} (h : PlusT A B k out c) (hA : DigB 10 A) (hB : DigB 10 B) (nA : Norm A) (nB : Norm B) (hgo : k < A.length ∨ k < B.length ∨ 0 < c) :
    PlusT A B (k + 1) (out ++ [(c + A.getD k 0 + B.getD k 0) % 10]) ((c + A.getD k 0 + B.getD k 0) / 10) := by
  obtain ⟨h1, h2, h3, h4, h5, h6⟩ := h
  have ha := dig_getD (by decide) hA k
  have hb := dig_getD (by decide) hB k
  refine ⟨by simp [h1], h2.append (DigB.cons (Nat.mod_lt _ (by decide)) (DigB.nil _)), ?_, by omega, .inr ?_, ?_⟩
  · rw [leV_snoc, h1, ten_take, ten_take, Nat.pow_succ, Nat.mul_assoc]
    have h7 := Nat.mod_add_div (c + A.getD k 0 + B.getD k 0) 10
    have h8 : 10 ^ k * ((c + A.getD k 0 + B.getD k 0) % 10) + 10 ^ k * (10 * ((c + A.getD k 0 + B.getD k 0) / 10)) = 10 ^ k * c + 10 ^ k * A.getD k 0 + 10 ^ k * B.getD k 0 := by
      rw [← Nat.mul_add, h7, Nat.mul_add, Nat.mul_add]
    omega
  · rw [Nat.add_sub_cancel]
    rcases hgo with hgo | hgo | hgo
    · have := ten_top nA hgo; omega
    · have := ten_top nB hgo; omega
    · have h7 := ten_part A k
      have h8 := ten_part B k
      have h9 : 10 ^ k * 1 ≤ 10 ^ k * c := Nat.mul_le_mul_left _ hgo
      omega
  · rcases h6 with h6 | ⟨h6, h7⟩
    · rcases Nat.lt_or_ge k (A.length + B.length) with h8 | h8
      · exact .inl (by omega)
      · have e1 := getD_far (l := A) (k := k) (by omega)
        have e2 := getD_far (l := B) (k := k) (by omega)
        refine .inr ⟨by omega, by rw [e1, e2]; omega⟩
    · omega
theorem PlusT.done {A B : List Nat} {k : Nat} {out : List Nat} (h : PlusT A B k out 0) (hA : A.length ≤ k) (hB : B.length ≤ k) : out = digsL 10 (leV 10 A + leV 10 B) := by
  obtain ⟨h1, h2, h3, _, h5, _⟩ := h
  rw [List.take_of_length_le hA, List.take_of_length_le hB] at h3
  refine digs_of h2 (norm_of_ge h2 ?_) (by omega)
  rcases h5 with h5 | h5
  · subst h5; exact .inl (List.length_eq_zero_iff.1 h1)
  · rw [h1]; exact .inr (by omega)
theorem PlusT.small {A B : List Nat} {k : Nat} {out : List Nat} {c : Nat} (h : PlusT A B k out c) (hgo : k < A.length ∨ k < B.length ∨ 0 < c) : k ≤ A.length + B.length := by
  obtain ⟨_, _, _, _, _, h6⟩ := h
  omega

/-- A difference under way. -/
def MinusT (A B : List Nat) (k : Nat) (out : List Nat) (c : Nat) : Prop :=
  out.length = k ∧ DigB 10 out ∧ leV 10 (A.take k) + 10 ^ k * c = leV 10 out + leV 10 (B.take k) ∧ c ≤ 1
theorem MinusT.start (A B : List Nat) : MinusT A B 0 [] 0 := ⟨rfl, DigB.nil _, by simp [leV], by omega⟩
theorem MinusT.low {A B : List Nat} {k : Nat} {out : List Nat} {c : Nat} (h : MinusT A B k out c) (hA : DigB 10 A) (hlt : A.getD k 0 < c + B.getD k 0) :
    MinusT A B (k + 1) (out ++ [A.getD k 0 + 10 - (c + B.getD k 0)]) 1 ∨ 10 ≤ B.getD k 0 := by
  rcases Nat.lt_or_ge (B.getD k 0) 10 with hb | hb
  · left
    obtain ⟨h1, h2, h3, h4⟩ := h
    have ha := dig_getD (by decide) hA k
    obtain ⟨d, hd⟩ : ∃ d, d = A.getD k 0 + 10 - (c + B.getD k 0) := ⟨_, rfl⟩
    have hd2 : d + c + B.getD k 0 = A.getD k 0 + 10 := by omega
    rw [← hd]
    refine ⟨by simp [h1], h2.append (DigB.cons (by omega) (DigB.nil _)), ?_, by omega⟩
    rw [leV_snoc, h1, ten_take, ten_take, Nat.pow_succ]
    have h8 : 10 ^ k * d + 10 ^ k * c + 10 ^ k * B.getD k 0 = 10 ^ k * A.getD k 0 + 10 ^ k * 10 := by
      rw [← Nat.mul_add, ← Nat.mul_add, ← Nat.mul_add, hd2]
    omega
  · exact .inr hb
theorem MinusT.done {A B : List Nat} {out : List Nat} {c : Nat} (h : MinusT A B A.length out c) (hA : DigB 10 A) (nB : Norm B) (hle : leV 10 B ≤ leV 10 A) : trimL out = digsL 10 (leV 10 A - leV 10 B) := by
  obtain ⟨h1, h2, h3, h4⟩ := h
  have hl : B.length ≤ A.length := by
    rcases Nat.lt_or_ge A.length B.length with hl | hl
    · have := leV_len_lt (by decide) hA nB hl; omega
    · exact hl
  rw [List.take_of_length_le (Nat.le_refl _), List.take_of_length_le hl] at h3
  have h5 := leV_lt h2
  rw [h1] at h5
  have hc : c = 0 := by
    rcases Nat.eq_zero_or_pos c with h6 | h6
    · exact h6
    · have h7 : 10 ^ A.length * 1 ≤ 10 ^ A.length * c := Nat.mul_le_mul_left _ h6
      omega
  subst hc
  exact digs_trim h2 (by omega)

/-- A product under way. -/
def TimesT (A B : List Nat) (i k : Nat) (C : List Nat) (c : Nat) : Prop :=
  C.length = A.length + B.length ∧ DigB 10 C ∧ leV 10 C + 10 ^ (i + k) * c = leV 10 (A.take i) * leV 10 B + 10 ^ i * A.getD i 0 * leV 10 (B.take k) ∧ c ≤ 9
theorem TimesT.start (A B : List Nat) : TimesT A B 0 0 (List.replicate (A.length + B.length) 0) 0 := by
  refine ⟨List.length_replicate, fun x hx => ?_, by simp [leV_zeros, leV], by omega⟩
  obtain ⟨_, rfl⟩ := List.mem_replicate.1 hx; decide
theorem TimesT.place {A B : List Nat} {i k : Nat} {C : List Nat} {c : Nat} (h : TimesT A B i k C c) (hA : DigB 10 A) (hB : DigB 10 B) (hi : i < A.length) (hgo : k < B.length ∨ 0 < c) : i + k < A.length + B.length := by
  rcases hgo with hgo | hgo
  · omega
  · obtain ⟨h1, h2, h3, _⟩ := h
    refine Nat.not_le.1 fun hk => ?_
    have e1 : 10 ^ (i + k) * 1 ≤ 10 ^ (i + k) * c := Nat.mul_le_mul_left _ hgo
    have e2 : 10 ^ (A.length + B.length) ≤ 10 ^ (i + k) := Nat.pow_le_pow_right (by decide) hk
    have e3 := ten_part B k
    have e4 := leV_lt hB
    have e5 : leV 10 (A.take (i + 1)) < 10 ^ A.length := Nat.lt_of_le_of_lt (ten_part A _) (leV_lt hA)
    rw [ten_take] at e5
    have e6 : 10 ^ i * A.getD i 0 * leV 10 (B.take k) ≤ 10 ^ i * A.getD i 0 * leV 10 B := Nat.mul_le_mul_left _ e3
    have e7 : (leV 10 (A.take i) + 10 ^ i * A.getD i 0) * leV 10 B < 10 ^ A.length * 10 ^ B.length := Nat.mul_lt_mul_of_lt_of_le e5 (Nat.le_of_lt e4) (Nat.pow_pos (by decide))
    rw [Nat.add_mul, ← Nat.pow_add] at e7
    omega
theorem TimesT.step {A B : List Nat} {i k : Nat} {C : List Nat} {c : Nat} (h : TimesT A B i k C c) (hA : DigB 10 A) (hB : DigB 10 B) (hi : i + k < A.length + B.length) :
    TimesT A B i (k + 1) (C.set (i + k) ((C.getD (i + k) 0 + c + A.getD i 0 * B.getD k 0) % 10)) ((C.getD (i + k) 0 + c + A.getD i 0 * B.getD k 0) / 10) := by
  obtain ⟨h1, h2, h3, h4⟩ := h
  have hs := ten_set C (i + k) ((C.getD (i + k) 0 + c + A.getD i 0 * B.getD k 0) % 10) (by omega)
  have hc := dig_getD (by decide) h2 (i + k)
  have ha := dig_getD (by decide) hA i
  have hb := dig_getD (by decide) hB k
  have hm : A.getD i 0 * B.getD k 0 ≤ 9 * 9 := Nat.mul_le_mul (by omega) (by omega)
  refine ⟨by rw [List.length_set]; exact h1, ten_digset h2 _ (Nat.mod_lt _ (by decide)), ?_, by omega⟩
  rw [ten_take, Nat.mul_add]
  have e1 : 10 ^ i * A.getD i 0 * (10 ^ k * B.getD k 0) = 10 ^ (i + k) * (A.getD i 0 * B.getD k 0) := by
    rw [Nat.pow_add]; simp only [Nat.mul_assoc, Nat.mul_left_comm]
  have e2 : 10 ^ (i + (k + 1)) = 10 ^ (i + k) * 10 := by rw [← Nat.add_assoc, Nat.pow_succ]
  rw [e1, e2, Nat.mul_assoc]
  generalize A.getD i 0 * B.getD k 0 = p at *
  generalize C.getD (i + k) 0 = x at *
  have e3 := Nat.mod_add_div (x + c + p) 10
  have e4 : 10 ^ (i + k) * ((x + c + p) % 10) + 10 ^ (i + k) * (10 * ((x + c + p) / 10)) = 10 ^ (i + k) * x + 10 ^ (i + k) * c + 10 ^ (i + k) * p := by
    rw [← Nat.mul_add, e3, Nat.mul_add, Nat.mul_add]
  omega
theorem TimesT.next {A B : List Nat} {i k : Nat} {C : List Nat} (h : TimesT A B i k C 0) (hk : B.length ≤ k) : TimesT A B (i + 1) 0 C 0 := by
  obtain ⟨h1, h2, h3, h4⟩ := h
  refine ⟨h1, h2, ?_, h4⟩
  rw [List.take_of_length_le hk] at h3
  rw [ten_take, Nat.add_mul]
  simp only [List.take_zero, leV, Nat.mul_zero, Nat.add_zero] at h3 ⊢
  omega
theorem TimesT.done {A B : List Nat} {i : Nat} {C : List Nat} (h : TimesT A B i 0 C 0) (hi : A.length ≤ i) : trimL C = digsL 10 (leV 10 A * leV 10 B) := by
  obtain ⟨h1, h2, h3, _⟩ := h
  rw [List.take_of_length_le hi] at h3
  simp only [List.take_zero, leV, Nat.mul_zero, Nat.add_zero] at h3
  exact digs_trim h2 h3

/-- A quotient under way: the digits from i up are found. -/
def DivT (A : List Nat) (y i : Nat) (Q : List Nat) (R : Nat) : Prop :=
  Q.length = A.length ∧ DigB 10 Q ∧ (∀ j, j < i → Q.getD j 0 = 0) ∧ leV 10 (A.drop i) * 10 ^ i = leV 10 Q * y + 10 ^ i * R ∧ R < y
theorem DivT.start (A : List Nat) {y : Nat} (hy : 0 < y) : DivT A y A.length (List.replicate A.length 0) 0 := by
  refine ⟨List.length_replicate, fun x hx => ?_, fun j hj => by simp [List.getD_eq_getElem?_getD, hj], by simp [leV_zeros, leV], hy⟩
  obtain ⟨_, rfl⟩ := List.mem_replicate.1 hx; decide
/-- One digit under way. -/
def DivI (A : List Nat) (y i : Nat) (Q : List Nat) (R : Nat) : Prop :=
  Q.length = A.length ∧ DigB 10 Q ∧ (∀ j, j < i → Q.getD j 0 = 0) ∧ leV 10 (A.drop i) * 10 ^ i = leV 10 Q * y + 10 ^ i * R ∧ Q.getD i 0 * y + R < 10 * y
theorem DivT.open {A : List Nat} {y i : Nat} {Q : List Nat} {R : Nat} (h : DivT A y (i + 1) Q R) (hA : DigB 10 A) (hi : i < A.length) : DivI A y i Q (A.getD i 0 + 10 * R) := by
  obtain ⟨h1, h2, h3, h4, h5⟩ := h
  refine ⟨h1, h2, fun j hj => h3 j (by omega), ?_, ?_⟩
  · rw [ten_drop hi, Nat.add_mul]
    rw [Nat.pow_succ] at h4
    have e1 : leV 10 (A.drop (i + 1)) * (10 ^ i * 10) = 10 * leV 10 (A.drop (i + 1)) * 10 ^ i := by rw [← Nat.mul_assoc, Nat.mul_comm _ 10, Nat.mul_assoc]
    have e2 : 10 ^ i * 10 * R = 10 ^ i * (10 * R) := Nat.mul_assoc _ _ _
    rw [Nat.mul_add, Nat.mul_comm (A.getD i 0) (10 ^ i)]
    omega
  · rw [h3 i (by omega)]
    have := dig_getD (by decide) hA i
    omega
theorem DivI.digit {A : List Nat} {y i : Nat} {Q : List Nat} {R : Nat} (h : DivI A y i Q R) (hR : y ≤ R) : Q.getD i 0 < 9 := by
  obtain ⟨_, _, _, _, h5⟩ := h
  refine Nat.not_le.1 fun hk => ?_
  have : 9 * y ≤ Q.getD i 0 * y := Nat.mul_le_mul_right _ hk
  omega
theorem DivI.step {A : List Nat} {y i : Nat} {Q : List Nat} {R : Nat} (h : DivI A y i Q R) (hi : i < A.length) (hR : y ≤ R) : DivI A y i (Q.set i (Q.getD i 0 + 1)) (R - y) := by
  have h9 := h.digit hR
  obtain ⟨h1, h2, h3, h4, h5⟩ := h
  have hs := ten_set Q i (Q.getD i 0 + 1) (by omega)
  refine ⟨by rw [List.length_set]; exact h1, ten_digset h2 _ (by omega), fun j hj => ?_, ?_, ?_⟩
  · rw [setN_get Q i j _ (by omega), if_neg (by omega)]; exact h3 j hj
  · have e1 : leV 10 (Q.set i (Q.getD i 0 + 1)) = leV 10 Q + 10 ^ i := by rw [Nat.mul_add, Nat.mul_one] at hs; omega
    rw [e1, Nat.add_mul, h4]
    have e2 : 10 ^ i * R = 10 ^ i * y + 10 ^ i * (R - y) := by rw [← Nat.mul_add]; congr 1; omega
    omega
  · rw [setN_get Q i i _ (by omega), if_pos rfl, Nat.add_mul, Nat.one_mul]; omega
theorem DivI.close {A : List Nat} {y i : Nat} {Q : List Nat} {R : Nat} (h : DivI A y i Q R) (hR : R < y) : DivT A y i Q R := by
  obtain ⟨h1, h2, h3, h4, _⟩ := h
  exact ⟨h1, h2, h3, h4, hR⟩
theorem DivT.done {A : List Nat} {y : Nat} {Q : List Nat} {R : Nat} (h : DivT A y 0 Q R) : trimL Q = digsL 10 (leV 10 A / y) ∧ R = leV 10 A % y := by
  obtain ⟨h1, h2, _, h4, h5⟩ := h
  simp only [List.drop_zero, Nat.pow_zero, Nat.mul_one, Nat.one_mul] at h4
  have e1 : leV 10 A / y = leV 10 Q := by
    rw [h4, Nat.mul_comm, Nat.mul_add_div (by omega), Nat.div_eq_of_lt h5]; omega
  have e2 : leV 10 A % y = R := by rw [h4, Nat.mul_comm, Nat.mul_add_mod, Nat.mod_eq_of_lt h5]
  exact ⟨by rw [e1]; exact digs_trim h2 rfl, e2.symm⟩

/-- A root under way: the digits from i up are found. -/
def RootT (n h i : Nat) (O : List Nat) : Prop :=
  O.length = h ∧ DigB 10 O ∧ (∀ j, j < i → O.getD j 0 = 0) ∧ leV 10 O * leV 10 O ≤ n ∧ n < (leV 10 O + 10 ^ i) * (leV 10 O + 10 ^ i)
theorem RootT.start {n L : Nat} (hn : n < 10 ^ L) {h : Nat} (hh : L ≤ 2 * h) : RootT n h h (List.replicate h 0) := by
  refine ⟨List.length_replicate, fun x hx => ?_, fun j hj => by simp [List.getD_eq_getElem?_getD, hj], by rw [leV_zeros]; omega, ?_⟩
  · obtain ⟨_, rfl⟩ := List.mem_replicate.1 hx; decide
  · rw [leV_zeros, Nat.zero_add, ← Nat.pow_add]
    have : 10 ^ L ≤ 10 ^ (h + h) := Nat.pow_le_pow_right (by decide) (by omega)
    omega
/-- One digit under way: d is tried. -/
def RootI (n h i : Nat) (d : Nat) (O : List Nat) : Prop :=
  O.length = h ∧ DigB 10 O ∧ (∀ j, j < i → O.getD j 0 = 0) ∧ O.getD i 0 = d ∧ 10 ^ i * d ≤ leV 10 O ∧ (leV 10 O - 10 ^ i * d) * (leV 10 O - 10 ^ i * d) ≤ n ∧ n < (leV 10 O + 10 ^ i) * (leV 10 O + 10 ^ i)
theorem RootT.open {n h i : Nat} {O : List Nat} (H : RootT n h (i + 1) O) (hi : i < h) : RootI n h i 9 (O.set i 9) := by
  obtain ⟨h1, h2, h3, h4, h5⟩ := H
  have hs := ten_set O i 9 (by omega)
  rw [h3 i (by omega), Nat.mul_zero, Nat.add_zero] at hs
  refine ⟨by rw [List.length_set]; exact h1, ten_digset h2 _ (by decide), fun j hj => ?_, ?_, by omega, ?_, ?_⟩
  · rw [setN_get O i j _ (by omega), if_neg (by omega)]; exact h3 j (by omega)
  · rw [setN_get O i i _ (by omega), if_pos rfl]
  · rw [hs, Nat.add_sub_cancel]; exact h4
  · rw [hs]
    have : leV 10 O + 10 ^ i * 9 + 10 ^ i = leV 10 O + 10 ^ (i + 1) := by rw [Nat.pow_succ]; omega
    rw [this]; exact h5
theorem RootI.step {n h i d : Nat} {O : List Nat} (H : RootI n h i d O) (hi : i < h) (hd : 0 < d) (hgt : n < leV 10 O * leV 10 O) : RootI n h i (d - 1) (O.set i (d - 1)) := by
  obtain ⟨h1, h2, h3, h4, h5, h6, h7⟩ := H
  have hs := ten_set O i (d - 1) (by omega)
  rw [h4] at hs
  have hd9 := dig_getD (by decide) h2 i
  obtain ⟨e, rfl⟩ : ∃ e, d = e + 1 := ⟨d - 1, by omega⟩
  rw [Nat.add_sub_cancel] at hs ⊢
  have e1 : 10 ^ i * (e + 1) = 10 ^ i * e + 10 ^ i := by rw [Nat.mul_add, Nat.mul_one]
  rw [e1] at hs h5 h6
  refine ⟨by rw [List.length_set]; exact h1, ten_digset h2 _ (by omega), fun j hj => ?_, ?_, by omega, ?_, ?_⟩
  · rw [setN_get O i j _ (by omega), if_neg (by omega)]; exact h3 j (by omega)
  · rw [setN_get O i i _ (by omega), if_pos rfl]
  · have : leV 10 (O.set i e) - 10 ^ i * e = leV 10 O - (10 ^ i * e + 10 ^ i) := by omega
    rw [this]; exact h6
  · have : leV 10 (O.set i e) + 10 ^ i = leV 10 O := by omega
    rw [this]; exact hgt
theorem RootI.close {n h i d : Nat} {O : List Nat} (H : RootI n h i d O) (hle : d = 0 ∨ leV 10 O * leV 10 O ≤ n) : RootT n h i O := by
  obtain ⟨h1, h2, h3, h4, h5, h6, h7⟩ := H
  refine ⟨h1, h2, h3, ?_, h7⟩
  rcases hle with rfl | hle
  · simpa using h6
  · exact hle
theorem RootT.done {n h : Nat} {O : List Nat} (H : RootT n h 0 O) : trimL O = digsL 10 (sqrtN n) := by
  obtain ⟨_, h2, _, h4, h5⟩ := H
  exact digs_trim h2 (sqrtN_unique h4 h5)
end Putlog
/- IntRefKit: What the contracts of the reference share; its order of two lists of digits. -/
namespace Go.Proofs.YtbdidkncgklljaaGreatDoor
open Go.RowKit Putlog

theorem nums_form {w : World} {v : Value} {l : List Nat} (h : NumsAt w v l) : ∃ a c, v = .slice a l.length c ∧ NumsAt w (.slice a l.length c) l := by
  obtain ⟨a, c, e, r⟩ := h
  exact ⟨a, c, e, a, c, rfl, r⟩
/-- A list of numbers in a block that is not one of the first. -/
def NumsNew (w : World) (base : Nat) (v : Value) (l : List Nat) : Prop := NumsAt w v l ∧ ∀ ad n c, v = .slice (some ad) n c → base ≤ ad.block
theorem NumsNew.set {w : World} {base b i : Nat} {v x : Value} {l : List Nat} (h : NumsNew w base v l) (hb : b < base) : NumsAt (w.setCell ⟨b, i, none⟩ x) v l := by
  obtain ⟨⟨a, c, rfl, h2, h3, h4⟩, h5⟩ := h
  refine ⟨a, c, rfl, h2, h3, ?_⟩
  rcases h4 with h4 | ⟨g, rfl, h6⟩
  · exact .inl h4
  · have hg := h5 _ _ _ rfl
    refine .inr ⟨g, rfl, fun j hj => ?_⟩
    rw [World.cell?_setCell_other _ _ _ _ (fun h => by have := congrArg Addr.block h; simp at this hg; omega)]
    exact h6 j hj
end Go.Proofs.YtbdidkncgklljaaGreatDoor
/- IntRefPlus: The reference's sum, difference and product of two lists of digits. -/
namespace Go.Proofs.YtbdidkncgklljaaGreatDoor
open Go.RowKit Putlog

end Go.Proofs.YtbdidkncgklljaaGreatDoor
/- IntRefDiv: The reference's quotient of two lists of digits, and the copy without zeros in front. -/
namespace Go.Proofs.YtbdidkncgklljaaGreatDoor
open Go.RowKit Putlog

theorem dlen_lt {x k : Nat} (h : x < 10 ^ k) : (digsL 10 x).length ≤ k := (digsL_len (by decide) x k).2 h
theorem ColsAt.via {w w' : World} {base : Nat} {a : Option Addr} {C : List Int} (h : ColsAt w base a C) (hB : Below w.heap.size w w') : ColsAt w' base a C := by
  rcases h with h | ⟨g, h1, h2, h3⟩
  · exact .inl h
  · exact .inr ⟨g, h1, h2, h3.via hB⟩
end Go.Proofs.YtbdidkncgklljaaGreatDoor
/- IntRefRead: The reference's Valid, and the digits of a valid integer. -/
namespace Go.Proofs.YtbdidkncgklljaaGreatDoor
open Go.RowKit Putlog

theorem ba_list (d : ByteArray) : d.data.toList.length = d.size ∧ ∀ k (_h : k < d.size), ∃ h2 : k < d.data.toList.length, d[k] = d.data.toList[k]'h2 := by
  have hsz : d.data.toList.length = d.size := by rw [Array.length_toList]; rfl
  exact ⟨hsz, fun k h => ⟨by omega, by simp [ByteArray.getElem_eq_getElem_data]⟩⟩
theorem ba_head {s : ByteArray} (h : 0 < s.size) : s.data.toList.head? = some s[0] := by
  obtain ⟨h1, h2⟩ := ba_list s
  obtain ⟨h3, h4⟩ := h2 0 h
  rw [h4, List.head?_eq_getElem?, List.getElem?_eq_getElem h3]
end Go.Proofs.YtbdidkncgklljaaGreatDoor
/- IntRefOps: The reference's Add, Sub, Mul, Compare, Div and Gcd, on valid integers and on other texts. -/
namespace Go.Proofs.YtbdidkncgklljaaGreatDoor
open Go.RowKit Putlog

end Go.Proofs.YtbdidkncgklljaaGreatDoor
/- IntRefInts: The reference's FromInt and ToInt. -/
namespace Go.Proofs.YtbdidkncgklljaaGreatDoor
open Go.RowKit Putlog

theorem int_head {z : Int} : 0 < (intB z).size ∧ ∀ h : 0 < (intB z).size, ((((intB z)[0]).toNat : Int) == 45) = decide (z < 0) := by
  have hl : (intB z).data.toList = intT z := by
    show (intT z).toArray.toList = _
    rw [List.toList_toArray]
  have h1 := (ba_list (intB z)).1
  rw [hl] at h1
  have hne : intT z ≠ [] := by
    unfold intT; split
    · simp
    · exact natT_ne _
  have h0 : 0 < (intB z).size := by have := List.length_pos_iff.2 hne; omega
  refine ⟨h0, fun h => ?_⟩
  have hh := ba_head h
  rw [hl] at hh
  by_cases hz : z < 0
  · unfold intT at hh
    rw [if_pos hz, List.head?_cons] at hh
    rw [← Option.some.inj hh]; simpa using hz
  · unfold intT at hh
    rw [if_neg hz] at hh
    have hd := natT_head_dig z.natAbs
    rw [hh] at hd
    rw [show decide (z < 0) = false by simpa using hz, beq_eq_false_iff_ne]
    intro h45
    exact hd (by rw [show (intB z)[0] = 45 from UInt8.toNat_inj.1 (by rw [show (45 : UInt8).toNat = 45 from rfl]; omega)])
/-- The digits of a number under way: those that are found, and the rest. -/
def FromT (N : Nat) (l : List Nat) (M : Nat) : Prop := DigB 10 l ∧ leV 10 l + 10 ^ l.length * M = N ∧ (l = [] ∨ 10 ^ (l.length - 1) ≤ N)
theorem FromT.start (N : Nat) : FromT N [] N := ⟨DigB.nil _, by simp [leV], .inl rfl⟩
theorem FromT.step {N : Nat} {l : List Nat} {M : Nat} (h : FromT N l M) (hM : 0 < M) : FromT N (l ++ [M % 10]) (M / 10) := by
  obtain ⟨h1, h2, h3⟩ := h
  refine ⟨h1.append (DigB.cons (Nat.mod_lt _ (by decide)) (DigB.nil _)), ?_, .inr ?_⟩
  · rw [leV_snoc, List.length_append, List.length_cons, List.length_nil, Nat.zero_add, Nat.pow_succ, Nat.mul_assoc, Nat.add_assoc, ← Nat.mul_add, Nat.mod_add_div]
    exact h2
  · have e : (l ++ [M % 10]).length - 1 = l.length := by simp
    rw [e]
    have h4 : 10 ^ l.length * 1 ≤ 10 ^ l.length * M := Nat.mul_le_mul_left _ hM
    omega
theorem FromT.done {N : Nat} {l : List Nat} (h : FromT N l 0) : l = digsL 10 N := by
  obtain ⟨h1, h2, h3⟩ := h
  have hv : leV 10 l = N := by omega
  refine digs_of h1 (norm_of_ge h1 ?_) hv
  rcases h3 with h3 | h3
  · exact .inl h3
  · exact .inr (by omega)
theorem FromT.small {N : Nat} {l : List Nat} {M : Nat} (h : FromT N l M) (hN : N < 10 ^ 20) : l.length ≤ 20 := by
  obtain ⟨_, _, h3⟩ := h
  rcases h3 with rfl | h3
  · decide
  · refine Nat.not_lt.1 fun hl => ?_
    have : 10 ^ 20 ≤ 10 ^ (l.length - 1) := Nat.pow_le_pow_right (by decide) (by omega)
    omega

set_option maxRecDepth 100000 in
set_option maxHeartbeats 4000000 in
theorem rfrom_pos (n : Int) (h0 : -9223372036854775808 ≤ n) (h1 : n ≤ 9223372036854775807) (hs : ¬ n < 0) (w : World) :
    Calls Tryz.prog 33 #[.int .i64 n] w fun e w' => e = .returned (.string (intB n)) ∧ Below w.heap.size w w' := by
  obtain ⟨i0, hi0, hz0, hz1, hz2⟩ := info_parts info_int
  have HI0 := Lib.hid hi0
  have HZ0 := Lib.hid hz0
  have HZ1 := Lib.hid hz1
  have HZ2 := Lib.hid hz2
  obtain ⟨N, hN⟩ : ∃ N, N = n.natAbs := ⟨_, rfl⟩
  have HNB : Hid (N < 10 ^ 20) := by show _ < _; omega
  have hn : n = (N : Int) := by omega
  have hT := fun v W h => rtext_any false (digsL 10 N) (by have : (digsL 10 N).length ≤ 20 := dlen_lt HNB.out; omega) (digsL_dig (by decide) _) (digsL_norm (by decide) _) v W h
  rw [leV_digsL (by decide), show sgn false N = n by rw [hn]; rfl] at hT
  have HT := Lib.hid hT
  have hNb : (N : Int) ≤ 9223372036854775808 := by omega
  have hNb2 : (N : Int) ≤ 9223372036854775807 := by omega
  generalize intB n = s at *
  clear hi0 hz0 hz1 hz2 hT hN
  subst hn
  go_enter Tryz.func33, Tryz.ntmps33
  go_wp2_with fail
  go_loopw [3, 4] (fun v m wr => ∃ (M : Nat) (l : List Nat), m = .int .i64 ((M : Nat) : Int) ∧ M ≤ N ∧ FromT N l M ∧ wr.ownsRow w.heap.size 3 1 v l.length (i64l l) ∧ Below w.heap.size w wr) (fun _ m _ => (intOf m).natAbs)
  case atStart => exact ⟨N, [], rfl, Nat.le_refl _, FromT.start N, World.ownsRow_nil _ _ _ _, Below.refl _ _⟩
  case round =>
    obtain ⟨M, y, rfl, hM, hF, hown, hB⟩ := hrel
    have HF := Lib.hid hF
    have HO := Lib.hid hown
    have HB := Lib.hid hB
    have hyl := hF.small HNB.out
    have HK : Hid (y.length ≤ 100000) := by show _ ≤ _; omega
    have hMb : (M : Int) ≤ 9223372036854775808 := by omega
    have hMb2 : (M : Int) ≤ 9223372036854775807 := by omega
    clear hF hown hB hyl
    rcases Nat.eq_zero_or_pos M with rfl | hM0
    · have hE := HF.out.done
      have hnums := NumsAt.of_owns HO.out
      rw [hE] at hnums
      have HNU := Lib.hid hnums
      obtain ⟨_, _, rfl, _⟩ := nums_form hnums
      clear hE hnums HO
      go_wp2_with fail
      refine (HT.out _ _ HNU.out).mono ?_
      rintro e w5 ⟨rfl, hB5⟩
      have HB5 := Lib.hid (belowVia hB5 HB.out)
      clear hB5
      go_wp2_with fail
      go_ret
      exact ⟨rfl, HB5.out⟩
    · have HST := Lib.hid (HF.out.step hM0)
      have hne : (((M : Nat) : Int) != 0) = true := by rw [bne_iff_ne]; omega
      have hmm : ((M : Nat) : Int).tmod 10 = ((M % 10 : Nat) : Int) := by rw [Int.tmod_eq_emod_of_nonneg (by omega)]; omega
      have hmq : ((M : Nat) : Int).tdiv 10 = ((M / 10 : Nat) : Int) := by rw [Int.tdiv_eq_ediv_of_nonneg (by omega)]; omega
      have hd9 : ((M % 10 : Nat) : Int) ≤ 9 := by omega
      have hq9 : ((M / 10 : Nat) : Int) ≤ 922337203685477580 := by omega
      have HQM : Hid (M / 10 < M ∧ M / 10 ≤ N) := by show _ ∧ _; omega
      generalize M % 10 = d at *
      generalize M / 10 = q at *
      go_wp2_with (at_builtin; refine wpList_append_own _ rfl _ _ 22 rfl w.heap.size 3 i0 (.int .i64 0) 1 8 Tryz.underlying22 HI0.out HZ0.out HZ1.out HZ2.out rfl (by decide) u3 y.length (i64l y) (by rfl) (HO.out.alloc _) ⟨wr.heap.size, 0, none⟩ 1 1 [.int .i64 (d : Nat)] (by rfl) rfl (news_val _ _ _) (one_int _ _) (app_b1 HK.out) (app_b2 HK.out (by decide)) (app_b3 HB.out) ?_; intro v2 w9 hown9 hgrow9 _)
      have HFF := Lib.hid (app_i64 (b := d) HO.out HB.out hown9 hgrow9)
      clear hown9 hgrow9
      go_wp2_with fail
      go_roundw
      case rel => exact ⟨q, _, by go_num, HQM.out.2, HST.out, HFF.out.1, HFF.out.2⟩
      case measure => have := HQM.out; simp [intOf]; omega
set_option maxRecDepth 100000 in
set_option maxHeartbeats 4000000 in
theorem rfrom_neg (n : Int) (h0 : -9223372036854775808 ≤ n) (h1 : n ≤ 9223372036854775807) (hs : n < 0) (w : World) :
    Calls Tryz.prog 33 #[.int .i64 n] w fun e w' => e = .returned (.string (intB n)) ∧ Below w.heap.size w w' := by
  obtain ⟨i0, hi0, hz0, hz1, hz2⟩ := info_parts info_int
  have HI0 := Lib.hid hi0
  have HZ0 := Lib.hid hz0
  have HZ1 := Lib.hid hz1
  have HZ2 := Lib.hid hz2
  obtain ⟨N, hN⟩ : ∃ N, N = n.natAbs := ⟨_, rfl⟩
  have HNB : Hid (N < 10 ^ 20) := by show _ < _; omega
  have hn : n = -(N : Int) := by omega
  have hT := fun v W h => rtext_any true (digsL 10 N) (by have : (digsL 10 N).length ≤ 20 := dlen_lt HNB.out; omega) (digsL_dig (by decide) _) (digsL_norm (by decide) _) v W h
  rw [leV_digsL (by decide), show sgn true N = n by rw [hn]; rfl] at hT
  have HT := Lib.hid hT
  have hNb : (N : Int) ≤ 9223372036854775808 := by omega
  have hNp : 0 < N := by omega
  generalize intB n = s at *
  clear hi0 hz0 hz1 hz2 hT hN
  subst hn
  go_enter Tryz.func33, Tryz.ntmps33
  go_wp2_with fail
  go_loopw [3, 4] (fun v m wr => ∃ (M : Nat) (l : List Nat), m = .int .i64 (-(M : Int)) ∧ M ≤ N ∧ FromT N l M ∧ wr.ownsRow w.heap.size 3 1 v l.length (i64l l) ∧ Below w.heap.size w wr) (fun _ m _ => (intOf m).natAbs)
  case atStart => exact ⟨N, [], rfl, Nat.le_refl _, FromT.start N, World.ownsRow_nil _ _ _ _, Below.refl _ _⟩
  case round =>
    obtain ⟨M, y, rfl, hM, hF, hown, hB⟩ := hrel
    have HF := Lib.hid hF
    have HO := Lib.hid hown
    have HB := Lib.hid hB
    have hyl := hF.small HNB.out
    have HK : Hid (y.length ≤ 100000) := by show _ ≤ _; omega
    have hMb : (M : Int) ≤ 9223372036854775808 := by omega
    clear hF hown hB hyl
    rcases Nat.eq_zero_or_pos M with rfl | hM0
    · have hE := HF.out.done
      have hnums := NumsAt.of_owns HO.out
      rw [hE] at hnums
      have HNU := Lib.hid hnums
      obtain ⟨_, _, rfl, _⟩ := nums_form hnums
      have hnl : -(N : Int) < 0 := by omega
      clear hE hnums HO
      go_wp2_with fail
      refine (HT.out _ _ HNU.out).mono ?_
      rintro e w5 ⟨rfl, hB5⟩
      have HB5 := Lib.hid (belowVia hB5 HB.out)
      clear hB5
      go_wp2_with fail
      go_ret
      exact ⟨rfl, HB5.out⟩
    · have HST := Lib.hid (HF.out.step hM0)
      have hne : ((-(M : Int)) != 0) = true := by rw [bne_iff_ne]; omega
      have hmm : (-(M : Int)).tmod 10 = -((M % 10 : Nat) : Int) := by rw [Int.neg_tmod, Int.tmod_eq_emod_of_nonneg (by omega)]; omega
      have hmq : (-(M : Int)).tdiv 10 = -((M / 10 : Nat) : Int) := by rw [Int.neg_tdiv, Int.tdiv_eq_ediv_of_nonneg (by omega)]; omega
      have hd9 : ((M % 10 : Nat) : Int) ≤ 9 := by omega
      have hq9 : ((M / 10 : Nat) : Int) ≤ 922337203685477580 := by omega
      have HQM : Hid (M / 10 < M ∧ M / 10 ≤ N) := by show _ ∧ _; omega
      generalize M % 10 = d at *
      generalize M / 10 = q at *
      rcases Nat.eq_zero_or_pos d with rfl | hd0
      · skip
        go_wp2_with (at_builtin; refine wpList_append_own _ rfl _ _ 22 rfl w.heap.size 3 i0 (.int .i64 0) 1 8 Tryz.underlying22 HI0.out HZ0.out HZ1.out HZ2.out rfl (by decide) u3 y.length (i64l y) (by rfl) (HO.out.alloc _) ⟨wr.heap.size, 0, none⟩ 1 1 [.int .i64 ((0 : Nat) : Nat)] (by rfl) rfl (news_val _ _ _) (one_int _ _) (app_b1 HK.out) (app_b2 HK.out (by decide)) (app_b3 HB.out) ?_; intro v2 w9 hown9 hgrow9 _)
        have HFF := Lib.hid (app_i64 (b := 0) HO.out HB.out hown9 hgrow9)
        clear hown9 hgrow9
        go_wp2_with fail
        go_roundw
        case rel => exact ⟨q, _, by go_num, HQM.out.2, HST.out, HFF.out.1, HFF.out.2⟩
        case measure => have := HQM.out; simp [intOf]; omega
      · have hdn : -(d : Int) < 0 := by omega
        go_wp2_with (at_builtin; refine wpList_append_own _ rfl _ _ 22 rfl w.heap.size 3 i0 (.int .i64 0) 1 8 Tryz.underlying22 HI0.out HZ0.out HZ1.out HZ2.out rfl (by decide) u3 y.length (i64l y) (by rfl) (HO.out.alloc _) ⟨wr.heap.size, 0, none⟩ 1 1 [.int .i64 (d : Nat)] (by rfl) rfl (news_val _ _ _) (one_int _ _) (app_b1 HK.out) (app_b2 HK.out (by decide)) (app_b3 HB.out) ?_; intro v2 w9 hown9 hgrow9 _)
        have HFF := Lib.hid (app_i64 (b := d) HO.out HB.out hown9 hgrow9)
        clear hown9 hgrow9
        go_wp2_with fail
        go_roundw
        case rel => exact ⟨q, _, by go_num, HQM.out.2, HST.out, HFF.out.1, HFF.out.2⟩
        case measure => have := HQM.out; simp [intOf]; omega
theorem rfrom_any (n : Int) (h0 : -9223372036854775808 ≤ n) (h1 : n ≤ 9223372036854775807) (w : World) :
    Calls Tryz.prog 33 #[.int .i64 n] w fun e w' => e = .returned (.string (intB n)) ∧ Below w.heap.size w w' := by
  by_cases h : n < 0
  · exact rfrom_neg n h0 h1 h w
  · exact rfrom_pos n h0 h1 h w
end Go.Proofs.YtbdidkncgklljaaGreatDoor
