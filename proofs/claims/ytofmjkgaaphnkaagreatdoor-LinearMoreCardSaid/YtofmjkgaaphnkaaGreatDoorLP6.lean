/- Several texts of layers 3 and 4, one behind the other: LinCopy, LinMoreP, LinMoreM, LinLowest, LinPoint, LinWeights, LinAns, LinWay, LinJump, LinSolve, LinBnd, LinFormed, RegionS, LinEqual, LinEqP. -/
import Derived.ArgAppend
import Derived.ScopeJumps
import Derived.Tactics
import Derived.Test.YtofmjkgaaphnkaaGreatDoorLP5
/- LinCopy: The contract of the reference's Copy. -/
namespace Go.Proofs.YtofmjkgaaphnkaaGreatDoor
open Go.RowKit Putlog

theorem add_plain (b o i : Nat) : (⟨b, o, none⟩ : Addr).add i = ⟨b, o + i, none⟩ := by unfold Addr.add; split <;> simp_all
theorem own_empty (w : World) (t : TypeId) : (w.alloc (.cells #[] t)).ownsRow w.heap.size t 1 (.slice (some ⟨w.heap.size, 0, none⟩) 0 0) 0 [] :=
 ⟨rfl, .inr ⟨w.heap.size, 0, #[], rfl, Nat.le_refl _, heap_alloc_new w _, Nat.le_refl _, by unfold maxLen; omega, rfl, rfl⟩⟩
theorem ints_news {w : World} {g o : Nat} {l : List Int} (h : IntsFrom w (some ⟨g, o, none⟩) l) : ∀ j u, (intsV l)[j]? = some u → w.cell? ((⟨g, o, none⟩ : Addr).add j) = some u := fun j u hu => by
 rw [add_plain]
 have hj : j < l.length := by have := (List.getElem?_eq_some_iff.1 hu).1; simpa [intsV] using this
 rcases h with h | ⟨g', o', e, h2⟩
 ·rw [h] at hj; simp at hj
 ·cases e
  rw [h2 j hj, ← hu]
  unfold intsV
  rw [List.getElem?_map, List.getElem?_eq_getElem hj, List.getD_eq_getElem?_getD, List.getElem?_eq_getElem hj]; rfl
theorem one_intsV (l : List Int) : ∀ u ∈ intsV l, u.oneCell' = true := fun u hu => by
 obtain ⟨z, _, rfl⟩ := List.mem_map.1 hu
 rfl
theorem cell_keepN {N : Nat} {w w' : World} (h : KeepN N w w') {p i : Nat} {v : Value} (hc : w.cell? ⟨p, i, none⟩ = some v) (hp : p < N) : w'.cell? ⟨p, i, none⟩ = some v := by
 rw [← hc]; simp only [World.cell?, h p hp]
/-- What Copy has made under way: k rows; N: the blocks that stand. -/
structure CpO (s : SysP) (a : Option Addr) (ca : Nat) (W : World) (k N : Nat) (wr : World) : Prop where
 ex : ∃ L v, L.map RowX.p = s.rows.take k ∧ SysO (W.heap.size + 3) wr L v ∧ LtN N L v ∧ BlkB 27 (W.heap.size + 2) [.int .i64 s.cols, v] wr
 xb : BlkB 27 W.heap.size [.int .i64 s.cols, .slice a s.rows.length ca] wr
 res : BlkB 27 (W.heap.size + 1) [.int .i64 0, .slice none 0 0] wr
 below : Below W.heap.size W wr
 size : W.heap.size + 3 ≤ N
 here : N ≤ wr.heap.size
section
variable {s : SysP} {a : Option Addr} {ca : Nat} {W : World} {k N : Nat}
theorem CpO.keep {w w' : World} (h : CpO s a ca W k N w) (hk : KeepN N w w') (hB : Below W.heap.size W w') (hs : w.heap.size ≤ w'.heap.size) : CpO s a ca W k N w' := by
 obtain ⟨L, v, h1, h2, h3, h4⟩ := h.ex
 have hz := h.size
 exact ⟨⟨L, v, h1, h2.keepN h3 hk, h3, hk.blk h4 (by omega)⟩, hk.blk h.xb (by omega), hk.blk h.res (by omega), hB, h.size, Nat.le_trans h.here hs⟩
theorem CpO.via {w w' : World} (h : CpO s a ca W k N w) (hB : Below w.heap.size w w') : CpO s a ca W k N w' := h.keep (KeepN.below hB h.here) (belowVia hB h.below) hB.size
theorem CpO.grown {w w' : World} (h : CpO s a ca W k N w) {o : Option Nat} (hg : w.grownBy w' o) (ho : ∀ g, o = some g → N ≤ g) : CpO s a ca W k N w' :=
 h.keep (KeepN.grown hg h.here ho) (h.below.grown hg (Nat.le_trans (by have := h.size; omega) h.here) (fun g e => by have := ho g e; have := h.size; omega)) hg.size
theorem CpO.top {M : Nat} {w : World} (h : CpO s a ca W k N w) (hN : N ≤ M) (hM : M ≤ w.heap.size) : CpO s a ca W k M w := by
 obtain ⟨L, v, h1, h2, h3, h4⟩ := h.ex
 exact ⟨⟨L, v, h1, h2, ⟨fun k e => by have := h3.1 k e; omega, fun r hr k e => by have := h3.2 r hr k e; omega⟩, h4⟩, h.xb, h.res, h.below, by have := h.size; omega, hM⟩
/-- A row is added. -/
theorem CpO.push {w w9 : World} (h : CpO s a ca W k N w) {r : RowX} (hr : w.ownsRow N 3 1 r.v r.coef.length (intsV r.coef)) (hk : k < s.rows.length) (hp : r.p = s.rows.getD k ([], 0)) {L : List RowX} {v v' : Value}
  (hL : L.map RowX.p = s.rows.take k) (hO : SysO (W.heap.size + 3) w L v) (hlt : LtN N L v)
  (hown : w9.ownsRow (W.heap.size + 3) 60 2 v' (L.length + 1) (rowsU L ++ rowU r)) (hg : w.grownBy w9 v.ownBlock) :
  CpO s a ca W (k + 1) w9.heap.size (w9.setCell ⟨W.heap.size + 2, 1, none⟩ v') := by
 have hz := h.size
 have hz2 := h.here
 have hvb : ∀ g, v.ownBlock = some g → W.heap.size + 3 ≤ g ∧ g < N := fun g e => ⟨(own_lt hO.top g e).1, hlt.1 g e⟩
 have hk0 : KeepN (W.heap.size + 3) w w9 := KeepN.grown hg (by omega) (fun g e => (hvb g e).1)
 have hB9 : Below W.heap.size W w9 := h.below.grown hg (by omega) (fun g e => by have := hvb g e; omega)
 have hs9 : w.heap.size ≤ w9.heap.size := hg.size
 obtain ⟨L0, v0, e1, e2, e3, e4⟩ := h.ex
 have hS := hO.push (r := r) (own_base hr (by omega)) (fun q hq g e1 e2 => by
  have := hlt.2 q hq g e1
  have := (own_lt hr g e2).1
  omega) hown hg
 have hrow : s.rows.take (k + 1) = s.rows.take k ++ [s.rows.getD k ([], 0)] := by
  rw [List.take_succ_eq_append_getElem hk, List.getD_eq_getElem?_getD, List.getElem?_eq_getElem hk]; rfl
 refine ⟨⟨L ++ [r], v', by rw [List.map_append, hL, hrow, ← hp]; rfl, ?_, ?_, ?_⟩, ?_, ?_, hB9.setCell (p := ⟨W.heap.size + 2, 1, none⟩) (by show W.heap.size ≤ W.heap.size + 2; omega) v', by omega, by rw [World.size_setCell]; exact Nat.le_refl _⟩
 ·exact hS.keep (fun g e => heap_setCell_other _ _ _ _ (by have := (own_lt hS.top g e).1; show g ≠ W.heap.size + 2; omega)) (fun q hq g e => heap_setCell_other _ _ _ _ (by have := (own_lt (hS.rows q hq) g e).1; show g ≠ W.heap.size + 2; omega))
 ·exact hS.lt
 ·exact (hk0.blk e4 (by omega)).set 1 v'
 ·exact ((hk0.blk h.xb (by omega)) : BlkB _ _ _ w9) |> fun hb => (heap_setCell_other _ _ _ _ (by show W.heap.size ≠ W.heap.size + 2; omega)).trans hb
 ·exact ((hk0.blk h.res (by omega)) : BlkB _ _ _ w9) |> fun hb => (heap_setCell_other _ _ _ _ (by show W.heap.size + 1 ≠ W.heap.size + 2; omega)).trans hb
end
set_option maxRecDepth 100000 in
set_option maxHeartbeats 8000000 in
theorem copy_c (s : SysP) (a : Option Addr) (ca : Nat) (W : World) (hs : SysM W s a ca) (hn9 : s.rows.length ≤ 9) (hco : ∀ r ∈ s.rows, 1 ≤ r.1.length ∧ r.1.length ≤ 64) :
  Calls Tryz.prog 32 #[.agg #[.int .i64 s.cols, .slice a s.rows.length ca]] W fun e w' => (∃ L a' c', e = .returned (.agg #[.int .i64 s.cols, .slice a' s.rows.length c']) ∧ L.map RowX.p = s.rows ∧ SysO W.heap.size w' L (.slice a' s.rows.length c')) ∧ Below W.heap.size W w' := by
 have HS := Lib.hid hs
 have HCO := Lib.hid hco
 obtain ⟨n, hn⟩ : ∃ n, n = s.rows.length := ⟨_, rfl⟩
 obtain ⟨cl, hcl⟩ : ∃ cl, cl = s.cols := ⟨_, rfl⟩
 have HN := Lib.hid hn
 have HCL := Lib.hid hcl
 have hnc : (n : Int) ≤ ca := by have := hs.len; omega
 have hcap := hs.cap
 have hni : (n : Int) ≤ 9 := by omega
 have x1 := alloc_belowL W (.cells #[.int .i64 cl, .slice a n ca] 27)
 have y1 : BlkB 27 W.heap.size [.int .i64 cl, .slice a n ca] (W.alloc (.cells #[.int .i64 cl, .slice a n ca] 27)) := heap_alloc_new W _
 have z1 : (W.alloc (.cells #[.int .i64 cl, .slice a n ca] 27)).heap.size = W.heap.size + 1 := by simp
 have y2 : BlkB 27 (W.heap.size + 1) [.int .i64 0, .slice none 0 0] ((W.alloc (.cells #[.int .i64 cl, .slice a n ca] 27)).alloc (.cells #[.int .i64 0, .slice none 0 0] 27)) := by
  rw [← z1]; exact heap_alloc_new _ _
 have x2 := alloc_belowL (W.alloc (.cells #[.int .i64 cl, .slice a n ca] 27)) (.cells #[.int .i64 0, .slice none 0 0] 27)
 have y1 := y1.via x2
 have x2 := belowVia x2 x1
 have z2 : ((W.alloc (.cells #[.int .i64 cl, .slice a n ca] 27)).alloc (.cells #[.int .i64 0, .slice none 0 0] 27)).heap.size = W.heap.size + 2 := by simp
 have x3 := alloc_belowL ((W.alloc (.cells #[.int .i64 cl, .slice a n ca] 27)).alloc (.cells #[.int .i64 0, .slice none 0 0] 27)) (.cells #[.int .i64 cl, .slice none 0 0] 27)
 have y3 : BlkB 27 (W.heap.size + 2) [.int .i64 cl, .slice none 0 0] (((W.alloc (.cells #[.int .i64 cl, .slice a n ca] 27)).alloc (.cells #[.int .i64 0, .slice none 0 0] 27)).alloc (.cells #[.int .i64 cl, .slice none 0 0] 27)) := by
  rw [← z2]; exact heap_alloc_new _ _
 have z3 : (((W.alloc (.cells #[.int .i64 cl, .slice a n ca] 27)).alloc (.cells #[.int .i64 0, .slice none 0 0] 27)).alloc (.cells #[.int .i64 cl, .slice none 0 0] 27)).heap.size = W.heap.size + 3 := by rw [alloc_sizeL, z2]
 have c0 := y1.cell (i := 0) rfl
 have HM : Hid (CpO s a ca W 0 (W.heap.size + 3) (((W.alloc (.cells #[.int .i64 cl, .slice a n ca] 27)).alloc (.cells #[.int .i64 0, .slice none 0 0] 27)).alloc (.cells #[.int .i64 cl, .slice none 0 0] 27))) :=
  Lib.hid ⟨⟨[], .slice none 0 0, rfl, SysO.nil _ _, ⟨fun k e => (by cases e), fun r hr => (by simp at hr)⟩, (by rw [← HCL.out]; exact y3)⟩, (by rw [← HCL.out, ← HN.out]; exact y1.via x3), y2.via x3, belowVia x3 x2, Nat.le_refl _, by rw [z3]; exact Nat.le_refl _⟩
 rw [← hn, ← hcl]
 clear hs hn hco x1 y1 z1 y2 x2 z2 x3 y3 z3 hcl hn9
 go_enter Tryz.func32, Tryz.ntmps32
 go_wp2_with fail
 generalize (((W.alloc (.cells #[.int .i64 cl, .slice a n ca] 27)).alloc (.cells #[.int .i64 0, .slice none 0 0] 27)).alloc (.cells #[.int .i64 cl, .slice none 0 0] 27)) = w3 at *
 clear c0
 go_loopw [4] (fun i wr => ∃ k N : Nat, k ≤ n ∧ i = .int .i64 k ∧ CpO s a ca W k N wr) (fun i _ => n - (intOf i).toNat)
 case atStart => exact ⟨0, _, Nat.zero_le _, rfl, HM.out⟩
 case round =>
  clear HM
  obtain ⟨k, N, hk, rfl, hm⟩ := hrel
  have hm := hm.top hm.here (Nat.le_refl _)
  have d1x := hm.xb.cell (i := 1) rfl
  rw [← HN.out] at d1x
  by_cases hlt : k < n
  ·have hlt' : (k : Int) < n := by omega
   have hks : k < s.rows.length := by have := HN.out; omega
   obtain ⟨g, o, rfl, hrow0⟩ := HS.out.row hks
   have HGW : Hid (g < W.heap.size) := Lib.hid (by obtain ⟨_, _, q0, _⟩ := hrow0.ex; exact lt_of_cell q0)
   have hrow := hrow0.via hm.below
   obtain ⟨ra, rc, d2, d3, hmc, hrc, hin⟩ := hrow.ex
   have hcb := HCO.out _ (getD_memR hks)
   obtain ⟨row, hrw⟩ : ∃ row, row = s.rows.getD k ([], 0) := ⟨_, rfl⟩
   rw [← hrw] at d2 d3 hmc hin hcb
   have HRW : Hid (row = s.rows.getD k ([], 0)) := Lib.hid hrw
   obtain ⟨l, vv⟩ := row
   clear hrw hrow hrow0
   dsimp only at d2 d3 hmc hin hcb
   obtain ⟨hc1, hc2⟩ := hcb
   obtain ⟨m, hml⟩ : ∃ m, m = l.length := ⟨_, rfl⟩
   have hraE : ∃ gc oc, ra = some ⟨gc, oc, none⟩ := by
    rcases hin with h | ⟨gc, oc, e, _⟩
    ·rw [h] at hc1; simp at hc1
    ·exact ⟨gc, oc, e⟩
   obtain ⟨gc, oc, rfl⟩ := hraE
   have HGL : Hid (g < wr.heap.size) := Lib.hid (lt_of_cell d2)
   rw [← hml] at d2 hmc hc1 hc2
   have HML := Lib.hid hml
   have hmi : (m : Int) ≤ 64 := by omega
   have hmrc : (m : Int) ≤ rc := by omega
   obtain ⟨L, tv, hL, hO, hlt2, hsb⟩ := hm.ex
   have hll : L.length = k := by have := congrArg List.length hL; simp at this; omega
   obtain ⟨ta, tc, rfl, _⟩ := own_cells hO.top
   have HGT : Hid (∀ q, (Value.slice ta L.length tc).ownBlock = some q → g ≠ q) := Lib.hid (fun q e => by
    have h1 := (own_lt hO.top q e).1
    have h2 := HGW.out
    omega)
   have HL := Lib.hid hL
   have HLT := Lib.hid hlt2
   have HLL := Lib.hid hll
   have d0 := hsb.cell (i := 1) rfl
   have df := hsb.froz 1
   obtain ⟨j0, hj0, hy0, hy1, hy2⟩ := info_ex inf_int
   obtain ⟨i0, hi0, hz0, hz1, hz2⟩ := info_ex inf_eqn
   have HJ0 := Lib.hid hj0
   have HY0 := Lib.hid hy0
   have HY1 := Lib.hid hy1
   have HY2 := Lib.hid hy2
   have HI0 := Lib.hid hi0
   have HZ0 := Lib.hid hz0
   have HZ1 := Lib.hid hz1
   have HZ2 := Lib.hid hz2
   clear hL hlt2 hll hsb hj0 hy0 hy1 hy2 hi0 hz0 hz1 hz2 hml
   go_wp2_with fail
   refine wp_region_K (fun w' => w'.cell? ⟨W.heap.size + 2, 1, none⟩ = some (.slice ta L.length tc) ∧ w'.cell? ⟨W.heap.size, 1, none⟩ = some (.slice (some ⟨g, o, none⟩) n ca) ∧ w'.cell? ⟨g, o + k * 2, none⟩ = some (.slice (some ⟨gc, oc, none⟩) m rc) ∧ w'.cell? ⟨g, o + k * 2 + 1, none⟩ = some (.int .i64 vv)) 20 (by kernel_rfl) ?_
   have hD : Below wr.heap.size wr wr.drew := (Below.refl wr.heap.size wr).drew
   have d0 := keptBelow hD d0
   have d1x := keptBelow hD d1x
   have d2 := keptBelow hD d2
   have d3 := keptBelow hD d3
   have hm := hm.via hD
   have hin := hin.via hD
   have hO := hO.via hD
   have hNs : wr.heap.size ≤ wr.drew.heap.size := hD.size
   generalize hwd : wr.drew = wd at *
   clear hD hwd
   have RR : Hid (g < wr.heap.size ∧ k < s.rows.length) := Lib.hid ⟨HGL.out, hks⟩
   generalize hN0 : wr.heap.size = N0 at *
   clear hN0 HGL
   refine wpK_tk (i := 0) (d := some 15) (v := ?_) rfl rfl (.inl ⟨by rfl, fun w hw => ?_⟩) ⟨d0, d1x, d2, d3⟩ ?_
   rotate_left
   ·clear hw; go_simp; with_reducible rfl
   try simp only [Act.put, tA, tB, tC]
   refine wpK_tk (i := 1) (d := some 16) (v := ?_) rfl rfl (.inl ⟨by rfl, fun w hw => ?_⟩) ⟨d0, d1x, d2, d3⟩ ?_
   rotate_left
   ·(obtain ⟨_, _, _, _⟩ := hw); go_simp; with_reducible rfl
   try simp only [Act.put, tA, tB, tC]
   refine wpK_tk (i := 3) (d := some 18) (v := ?_) rfl rfl (.inl ⟨by rfl, fun w hw => ?_⟩) ⟨d0, d1x, d2, d3⟩ ?_
   rotate_left
   ·clear hw; go_simp; with_reducible rfl
   try simp only [Act.put, tA, tB, tC]
   refine wpK_tk (i := 4) (d := some 19) (v := ?_) rfl rfl (.inl ⟨by rfl, fun w hw => ?_⟩) ⟨d0, d1x, d2, d3⟩ ?_
   rotate_left
   ·(obtain ⟨_, _, _, _⟩ := hw); go_simp; with_reducible rfl
   try simp only [Act.put, tA, tB, tC]
   refine wpK_tk (i := 5) (d := some 20) (v := ?_) rfl rfl (.inl ⟨by rfl, fun w hw => ?_⟩) ⟨d0, d1x, d2, d3⟩ ?_
   rotate_left
   ·clear hw; go_simp; with_reducible rfl
   try simp only [Act.put, tA, tB, tC]
   refine wpK_tk (i := 6) (d := some 21) (v := ?_) rfl rfl (.inl ⟨by rfl, fun w hw => ?_⟩) ⟨d0, d1x, d2, d3⟩ ?_
   rotate_left
   ·clear hw; go_simp; with_reducible rfl
   try simp only [Act.put, tA, tB, tC]
   refine wpK_tk (i := 7) (d := some 22) (v := ?_) rfl rfl (.inl ⟨by rfl, fun w hw => ?_⟩) ⟨d0, d1x, d2, d3⟩ ?_
   rotate_left
   ·clear hw; go_simp; with_reducible rfl
   try simp only [Act.put, tA, tB, tC]
   refine wpK_tk (i := 8) (d := some 23) (v := ?_) rfl rfl (.inl ⟨by rfl, fun w hw => ?_⟩) ⟨d0, d1x, d2, d3⟩ ?_
   rotate_left
   ·(obtain ⟨_, _, _, _⟩ := hw); go_simp; with_reducible rfl
   try simp only [Act.put, tA, tB, tC]
   refine wpK_tk (i := 10) (d := some 25) (v := ?_) rfl rfl (.inl ⟨by rfl, fun w hw => ?_⟩) ⟨d0, d1x, d2, d3⟩ ?_
   rotate_left
   ·clear hw; go_simp; with_reducible rfl
   try simp only [Act.put, tA, tB, tC]
   refine wpK_tk (i := 11) (d := some 26) (v := ?_) rfl rfl (.inl ⟨by rfl, fun w hw => ?_⟩) ⟨d0, d1x, d2, d3⟩ ?_
   rotate_left
   ·(obtain ⟨_, _, _, _⟩ := hw); go_simp; with_reducible rfl
   try simp only [Act.put, tA, tB, tC]
   refine wpK_tk (i := 12) (d := some 27) (v := ?_) rfl rfl (.inl ⟨by rfl, fun w hw => ?_⟩) ⟨d0, d1x, d2, d3⟩ ?_
   rotate_left
   ·clear hw; go_simp; with_reducible rfl
   try simp only [Act.put, tA, tB, tC]
   refine wpK_tk (i := 13) (d := some 28) (v := ?_) rfl rfl (.inl ⟨by rfl, fun w hw => ?_⟩) ⟨d0, d1x, d2, d3⟩ ?_
   rotate_left
   ·clear hw; go_simp; with_reducible rfl
   try simp only [Act.put, tA, tB, tC]
   refine wpK_tk (i := 14) (d := some 29) (v := ?_) rfl rfl (.inl ⟨by rfl, fun w hw => ?_⟩) ⟨d0, d1x, d2, d3⟩ ?_
   rotate_left
   ·clear hw; go_simp; with_reducible rfl
   try simp only [Act.put, tA, tB, tC]
   refine wpK_tk (i := 15) (d := some 30) (v := ?_) rfl rfl (.inl ⟨by rfl, fun w hw => ?_⟩) ⟨d0, d1x, d2, d3⟩ ?_
   rotate_left
   ·(obtain ⟨_, _, _, _⟩ := hw); go_simp; with_reducible rfl
   try simp only [Act.put, tA, tB, tC]
   refine wpK_one (i := 2) (by kernel_rfl) rfl rfl ?_
   go_simp
   have hBx := alloc_belowL wd (.cells #[] 3)
   have d0 := keptBelow hBx d0
   have d1x := keptBelow hBx d1x
   have d2 := keptBelow hBx d2
   have d3 := keptBelow hBx d3
   have hm := hm.via hBx
   have hin := hin.via hBx
   have hO := hO.via hBx
   have he := own_empty wd 3
   have hps : wd.heap.size + 1 ≤ (wd.alloc (.cells #[] 3)).heap.size := by rw [alloc_sizeL]; exact Nat.le_refl _
   clear hBx
   generalize wd.heap.size = p2 at *
   generalize wd.alloc (.cells #[] 3) = we at *
   refine ⟨⟨d0, d1x, d2, d3⟩, ?_⟩
   try simp only [Act.put, tA, tB, tC]
   refine wpK_append (i := 9) (dt := 24) (by kernel_rfl) rfl rfl rfl _ _ _ rfl p2 3 j0 (.int .i64 0) 1 8 Tryz.underlying22 HJ0.out HY0.out HY1.out HY2.out rfl (by decide) (.slice (some ⟨p2, 0, none⟩) 0 0) 0 [] rfl he ⟨gc, oc, none⟩ m rc (intsV l) rfl (by rw [HML.out]; simp [intsV]) (ints_news hin) (one_intsV l) (by omega) (by unfold maxLen; omega) (by omega) (by omega) ?_
   intro g' c' wf hown' hgr hat hlt9
   simp only [Nat.zero_add, List.nil_append] at hown' ⊢
   have hg2 : ∀ q, (Value.slice (some ⟨p2, 0, none⟩) 0 0).ownBlock = some q → q = p2 := fun q e => by cases e; rfl
   have hBf : KeepN p2 we wf := KeepN.grown hgr (by omega) (fun q e => by rw [hg2 q e]; exact Nat.le_refl _)
   have hkn : KeepN N0 we wf := hBf.mono hNs
   have hl0 := lt_of_cell d0
   have hl1 := lt_of_cell d1x
   have hm0 := hm
   have hm := hm.grown hgr (fun q e => by rw [hg2 q e]; exact hNs)
   have hO := hO.keepN HLT.out hkn
   have hrn := RR.out
   have d0 := cell_keepN hkn d0 (by have := hm0.size; omega)
   have d1x := cell_keepN hkn d1x (by have := hm0.size; omega)
   have d2 := cell_keepN hkn d2 hrn.1
   have d3 := cell_keepN hkn d3 hrn.1
   refine ⟨(fun _ => ⟨d0, d1x, d2, d3⟩), ?_⟩
   try simp only [Act.put, tA, tB, tC]
   refine wpK_tk (i := 16) (d := some 31) (v := ?_) rfl rfl (.inl ⟨by rfl, fun w hw => ?_⟩) ⟨d0, d1x, d2, d3⟩ ?_
   rotate_left
   ·clear hw; go_simp; with_reducible rfl
   try simp only [Act.put, tA, tB, tC]
   refine wpK_one (i := 17) (by kernel_rfl) rfl rfl ?_
   go_simp
   have hBx := alloc_belowL wf (.cells #[.slice (some ⟨g', 0, none⟩) m c', .int .i64 vv] 60)
   have d0 := keptBelow hBx d0
   have d1x := keptBelow hBx d1x
   have d2 := keptBelow hBx d2
   have d3 := keptBelow hBx d3
   have hm := hm.via hBx
   have hO := hO.via hBx
   have hown' := owns_belowR hown' hBx
   have hnw := news_two wf (.slice (some ⟨g', 0, none⟩) m c') (.int .i64 vv) 60
   clear hBx
   generalize wf.heap.size = p17 at *
   generalize wf.alloc (.cells #[.slice (some ⟨g', 0, none⟩) m c', .int .i64 vv] 60) = wg at *
   refine ⟨⟨d0, d1x, d2, d3⟩, ?_⟩
   try simp only [Act.put, tA, tB, tC]
   have hrow : RowX.v ⟨l, vv, some ⟨g', 0, none⟩, c'⟩ = .slice (some ⟨g', 0, none⟩) m c' := by unfold RowX.v; rw [HML.out]
   refine wpK_append (i := 18) (dt := 33) (by kernel_rfl) rfl rfl rfl _ _ _ rfl (W.heap.size + 3) 60 i0 (.agg #[.slice none 0 0, .int .i64 0]) 2 32 Tryz.underlying25 HI0.out HZ0.out HZ1.out HZ2.out rfl (by decide) (.slice ta L.length tc) L.length (rowsU L) rfl hO.top ⟨p17, 0, none⟩ 1 1 [.slice (some ⟨g', 0, none⟩) m c', .int .i64 vv] rfl rfl hnw (one_two _ _ _ _) (by decide) (by have := HLL.out; unfold maxLen; omega) (by have := HLL.out; omega) (by have := hm.size; have := hm.here; omega) ?_
   intro g3 c3 wh hown3 hgr3 hat3 hlt3
   have hfin : ∀ k2 : Nat, True := fun _ => trivial
   have hpush : CpO s (some ⟨g, o, none⟩) ca W (k + 1) wh.heap.size (wh.setCell ⟨W.heap.size + 2, 1, none⟩ (.slice (some ⟨g3, 0, none⟩) (L.length + 1) c3)) :=
    hm.push (r := ⟨l, vv, some ⟨g', 0, none⟩, c'⟩) (by rw [hrow, ← HML.out]; exact own_base hown' hNs) RR.out.2 HRW.out HL.out hO HLT.out (by show wh.ownsRow _ _ _ _ _ (rowsU L ++ [RowX.v ⟨l, vv, some ⟨g', 0, none⟩, c'⟩, .int .i64 vv]); rw [hrow]; exact hown3) hgr3
   have hvb : ∀ q, (Value.slice ta L.length tc).ownBlock = some q → W.heap.size + 3 ≤ q := fun q e => (own_lt hO.top q e).1
   have hlt_v : ∀ q, (Value.slice ta L.length tc).ownBlock = some q → W.heap.size + 3 ≤ q ∧ g ≠ q := fun q e => ⟨hvb q e, HGT.out q e⟩
   have hd0 : wh.cell? ⟨W.heap.size + 2, 1, none⟩ = some (.slice ta L.length tc) := kept_own hgr3 d0 (fun q e => by have := hvb q e; omega)
   have hdf : wh.frozen? ⟨W.heap.size + 2, 1, none⟩ = false := by
    obtain ⟨L9, v9, _, _, _, hs9⟩ := hm.ex
    exact (kept_blk hgr3 hs9 (fun q e => by have := hvb q e; omega)).froz 1
   have d0 := hd0
   have d1x := kept_own hgr3 d1x (fun q e => by have := hvb q e; omega)
   have d2 := kept_own hgr3 d2 (fun q e => by have h1 := hlt_v q e; have := RR.out; exact h1.2)
   have d3 := kept_own hgr3 d3 (fun q e => by have h1 := hlt_v q e; exact h1.2)
   refine ⟨(fun _ => ⟨d0, d1x, d2, d3⟩), ?_⟩
   try simp only [Act.put, tA, tB, tC]
   refine wpK_takeP (i := 19) (d := some 34) (v := ?_) rfl (by kernel_rfl) (by kernel_rfl) (by kernel_rfl) (by kernel_rfl) rfl (fun _ _ _ h => h) (.inl ⟨by rfl, fun w hw => ?_⟩) (fun h => ⟨d0, d1x, d2, d3⟩) ?_
   rotate_left
   ·clear hw; go_simp; with_reducible rfl
   try simp only [Act.put, tA, tB, tC]
   refine wpK_store1 (i := 20) (by kernel_rfl) rfl rfl rfl (by kernel_rfl) (by kernel_rfl) _ _ _ rfl (W.heap.size + 2) 1 (.slice (some ⟨g3, 0, none⟩) (L.length + 1) c3) rfl rfl rfl (by rw [hd0]; rfl) hdf (by kernel_rfl) rfl ?_
   have HP := Lib.hid hpush
   clear hpush hd0 hdf hown3 hgr3 hat3 hlt3 hm hm0 hO d0 d1x d2 d3 hnw hown' he hin hgr hat hlt9 hBf hkn
   generalize wh.setCell ⟨W.heap.size + 2, 1, none⟩ (.slice (some ⟨g3, 0, none⟩) (L.length + 1) c3) = wz at *
   go_wp2_with fail
   go_roundw
   case rel => exact ⟨k + 1, _, by omega, by go_num, HP.out⟩
   case measure => simp [intOf]; omega
  ·obtain rfl : k = n := by omega
   obtain ⟨L, tv, hL, hO, hlt2, hs⟩ := hm.ex
   have hll : L.length = k := by have := congrArg List.length hL; simp at this; have := HN.out; omega
   have hrows : L.map RowX.p = s.rows := by rw [hL, HN.out, List.take_length]
   obtain ⟨a2, c2, hv2, _⟩ := own_cells hO.top
   rw [hll] at hv2
   subst hv2
   rw [← HCL.out] at hs
   have s0 := hs.cell (i := 0) rfl
   have s1 := hs.cell (i := 1) rfl
   have hr := hm.res
   have t0 := hr.cell (i := 0) rfl
   have t1 := hr.cell (i := 1) rfl
   have tf0 := hr.froz 0
   have tf1 := hr.froz 1
   have HFIN : Hid (SysO W.heap.size ((wr.setCell ⟨W.heap.size + 1, 0, none⟩ (.int .i64 cl)).setCell ⟨W.heap.size + 1, 1, none⟩ (.slice a2 k c2)) L (.slice a2 k c2)) := Lib.hid (by
    have hk : ∀ g, W.heap.size + 3 ≤ g → ((wr.setCell ⟨W.heap.size + 1, 0, none⟩ (.int .i64 cl)).setCell ⟨W.heap.size + 1, 1, none⟩ (.slice a2 k c2)).heap[g]? = wr.heap[g]? := fun g hg =>
     (heap_setCell_other _ _ _ _ (by show g ≠ W.heap.size + 1; omega)).trans (heap_setCell_other _ _ _ _ (by show g ≠ W.heap.size + 1; omega))
    have hS := hO.keep (w' := (wr.setCell ⟨W.heap.size + 1, 0, none⟩ (.int .i64 cl)).setCell ⟨W.heap.size + 1, 1, none⟩ (.slice a2 k c2)) (fun g e => hk g (own_lt hO.top g e).1) (fun r hr g e => hk g (own_lt (hO.rows r hr) g e).1)
    exact hS.base (by omega))
   have HBX := Lib.hid hm.below
   have HRES := Lib.hid hr
   have HROW := Lib.hid hrows
   clear hL hO hlt2 hs hll hrows hr hm
   go_wp2_with fail
   refine bodyPost_ret (results_cell_row rfl _ _ (W.heap.size + 1) _ _ _ _ rfl ((HRES.out.set 0 (.int .i64 cl)).set 1 (.slice a2 k c2)) Tryz.underlying27 rfl info_sysN) rfl ⟨⟨L, a2, c2, rfl, HROW.out, HFIN.out⟩, (HBX.out.setCell (by show W.heap.size ≤ W.heap.size + 1; omega) _).setCell (by show W.heap.size ≤ W.heap.size + 1; omega) _⟩
end Go.Proofs.YtofmjkgaaphnkaaGreatDoor
/- LinMoreP: A further row, and a further variable: plain mathematics. -/
namespace Go.Proofs.YtofmjkgaaphnkaaGreatDoor
open Putlog

/-- The further coefficients that integers determine. -/
def extX (l : List Int) (k : Nat) : Int := if k < l.length then pkN (l.getD k 0) 19 - 9 else 0
theorem extX_bounds (l : List Int) (k : Nat) : -9 ≤ extX l k ∧ extX l k ≤ 9 := by
 unfold extX
 split
 ·have := pkN_bounds (l.getD k 0) (n := 19) (by decide); omega
 ·omega
def extL (l : List Int) (n : Nat) : List Int := (List.range n).map (extX l)
def moreT (x : NumX) (row : List Int) (v : Int) : SysP := ⟨x.n, (madeS x).rows ++ [(extL row x.n, v)]⟩
def moreR (x : NumX) (col : List Int) (i : Nat) : List Int × Int := ((rowX x i).1 ++ [extX col i], (rowX x i).2)
def moreU (x : NumX) (col : List Int) : SysP := ⟨((x.n + 1 : Nat) : Int), (List.range x.m).map (moreR x col)⟩
theorem extL_mem {l : List Int} {n : Nat} {z : Int} (h : z ∈ extL l n) : -9 ≤ z ∧ z ≤ 9 := by
 obtain ⟨k, _, rfl⟩ := List.mem_map.1 h
 exact extX_bounds l k
theorem moreT_len (x : NumX) (row : List Int) (v : Int) : (moreT x row v).rows.length = x.m + 1 := by unfold moreT; simp [made_rows]
theorem moreU_len (x : NumX) (col : List Int) : (moreU x col).rows.length = x.m := by simp [moreU]
theorem moreT_get {x : NumX} {row : List Int} {v : Int} {r : Nat} (h : r < x.m) : (moreT x row v).rows.getD r ([], 0) = (madeS x).rows.getD r ([], 0) := by
 unfold moreT
 rw [List.getD_eq_getElem?_getD, List.getD_eq_getElem?_getD, List.getElem?_append_left (by rw [made_rows]; exact h)]
theorem moreU_get {x : NumX} {col : List Int} {r : Nat} (h : r < x.m) : (moreU x col).rows.getD r ([], 0) = moreR x col r := by
 unfold moreU; rw [List.getD_eq_getElem?_getD]; simp [h]
theorem moreT_valid (x : NumX) (row : List Int) {v : Int} (hv : -50 ≤ v ∧ v ≤ 50) : ValidP (moreT x row v) := by
 rw [← valid_iff]
 have h1 := x.n_bounds
 have h2 := x.m_bounds
 unfold validS
 simp only [Bool.and_eq_true, decide_eq_true_eq]
 refine ⟨(show (0 : Int) ≤ (x.n : Int) by omega), (show (x.n : Int) ≤ 64 by omega), by rw [moreT_len]; omega, ?_⟩
 rw [List.all_eq_true]
 intro r hr
 unfold rowOk
 simp only [Bool.and_eq_true, decide_eq_true_eq, List.all_eq_true, inB_iff]
 rcases List.mem_append.1 hr with hr | hr
 ·obtain ⟨i, hi, rfl⟩ := made_mem hr
  have hv := rowX_val x i
  exact ⟨by rw [rowX_len]; rfl, by omega, fun c hc => by have := rowX_coef hc; omega⟩
 ·rw [List.mem_singleton] at hr; subst hr
  exact ⟨by show ((extL row x.n).length : Int) = x.n; unfold extL; simp, (show -1000000000 ≤ v ∧ v ≤ 1000000000 by omega), fun c hc => by have := extL_mem hc; omega⟩
theorem moreU_valid (x : NumX) (col : List Int) : ValidP (moreU x col) := by
 rw [← valid_iff]
 have h1 := x.n_bounds
 have h2 := x.m_bounds
 unfold validS
 simp only [Bool.and_eq_true, decide_eq_true_eq]
 refine ⟨(show (0 : Int) ≤ ((x.n + 1 : Nat) : Int) by omega), (show ((x.n + 1 : Nat) : Int) ≤ 64 by omega), by rw [moreU_len]; omega, ?_⟩
 rw [List.all_eq_true]
 intro r hr
 obtain ⟨i, hi, rfl⟩ := List.mem_map.1 hr
 unfold rowOk
 simp only [Bool.and_eq_true, decide_eq_true_eq, List.all_eq_true, inB_iff]
 have hv := rowX_val x i
 refine ⟨by unfold moreR; rw [List.length_append, rowX_len]; rfl, (show -1000000000 ≤ (rowX x i).2 ∧ (rowX x i).2 ≤ 1000000000 by omega), fun c hc => ?_⟩
 unfold moreR at hc
 rcases List.mem_append.1 hc with hc | hc
 ·have := rowX_coef hc; omega
 ·rw [List.mem_singleton] at hc; subst hc; have := extX_bounds col i; omega
theorem moreT_A {x : NumX} {row : List Int} {v : Int} {j r : Nat} (h : r < x.m) : sysA (moreT x row v) j r = sysA (madeS x) j r := by unfold sysA; rw [moreT_get h]
theorem moreT_B {x : NumX} {row : List Int} {v : Int} {r : Nat} (h : r < x.m) : sysB (moreT x row v) r = sysB (madeS x) r := by unfold sysB; rw [moreT_get h]
theorem getD_left {l m : List Int} {j : Nat} (h : j < l.length) : (l ++ m).getD j 0 = l.getD j 0 := by
 rw [List.getD_eq_getElem?_getD, List.getD_eq_getElem?_getD, List.getElem?_append_left h]
theorem getD_end (l : List Int) (z : Int) : (l ++ [z]).getD l.length 0 = z := by simp
theorem moreU_A {x : NumX} {col : List Int} {j r : Nat} (h : r < x.m) (hj : j < x.n) : sysA (moreU x col) j r = sysA (madeS x) j r := by
 unfold sysA
 rw [moreU_get h, made_getD h]
 exact getD_left (by rw [rowX_len]; exact hj)
theorem moreU_B {x : NumX} {col : List Int} {r : Nat} (h : r < x.m) : sysB (moreU x col) r = sysB (madeS x) r := by
 unfold sysB; rw [moreU_get h, made_getD h]; rfl
theorem cols_n (x : NumX) : (madeS x).cols.toNat = x.n := rfl
theorem colsT (x : NumX) (row : List Int) (v : Int) : (moreT x row v).cols.toNat = x.n := rfl
theorem colsU (x : NumX) (col : List Int) : (moreU x col).cols.toNat = x.n + 1 := rfl
theorem moreT_sol {x : NumX} {row : List Int} {v : Int} {l : List Int} {d : Int} (h : SolP (moreT x row v) l d) : SolP (madeS x) l d := by
 refine ⟨h.len, h.nn, h.pos, fun r hr => ?_⟩
 rw [made_rows] at hr
 have := h.eqs r (by rw [moreT_len]; omega)
 rw [colsT, moreT_B hr] at this
 rw [cols_n, ← this]
 exact sumZ_congr fun j _ => by rw [moreT_A hr]
theorem moreT_ref {x : NumX} {row : List Int} {v : Int} {w : List Int} (h : RefP (madeS x) w) : RefP (moreT x row v) (w ++ [0]) := by
 have hl := h.len
 rw [made_rows] at hl
 have e : ∀ f : Nat → Int, sumZ (fun r => f r * (w ++ [0]).getD r 0) (x.m + 1) = sumZ (fun r => f r * w.getD r 0) x.m := fun f => by
  rw [sumZ]
  have h0 : (w ++ [0]).getD x.m 0 = 0 := by rw [← hl]; exact getD_end w 0
  rw [h0, Int.mul_zero, Int.add_zero]
  exact sumZ_congr fun r hr => by rw [getD_left (by omega)]
 refine ⟨by rw [moreT_len, List.length_append, hl]; rfl, fun j hj => ?_, ?_⟩
 ·rw [moreT_len, e]
  have := h.cols j hj
  rw [made_rows] at this
  rw [sumZ_congr (g := fun r => sysA (madeS x) j r * w.getD r 0) (fun r hr => by rw [moreT_A hr])]
  exact this
 ·rw [moreT_len, e]
  have := h.val
  rw [made_rows] at this
  rw [sumZ_congr (g := fun r => sysB (madeS x) r * w.getD r 0) (fun r hr => by rw [moreT_B hr])]
  exact this
theorem moreU_ref {x : NumX} {col : List Int} {w : List Int} (h : RefP (moreU x col) w) : RefP (madeS x) w := by
 have hl := h.len
 rw [moreU_len] at hl
 refine ⟨by rw [made_rows]; exact hl, fun j hj => ?_, ?_⟩
 ·rw [cols_n] at hj
  have := h.cols j (by rw [colsU]; omega)
  rw [moreU_len] at this
  rw [made_rows, sumZ_congr (g := fun r => sysA (moreU x col) j r * w.getD r 0) (fun r hr => by rw [moreU_A hr hj])]
  exact this
 ·have := h.val
  rw [moreU_len] at this
  rw [made_rows, sumZ_congr (g := fun r => sysB (moreU x col) r * w.getD r 0) (fun r hr => by rw [moreU_B hr])]
  exact this
theorem moreU_sol {x : NumX} {col : List Int} {l : List Int} {d : Int} (h : SolP (madeS x) l d) : SolP (moreU x col) (l ++ [0]) d := by
 have hl : l.length = x.n := by have h1 := h.len; have h2 : (madeS x).cols = (x.n : Nat) := rfl; omega
 refine ⟨by rw [List.length_append, hl]; rfl, fun z hz => ?_, h.pos, fun r hr => ?_⟩
 ·rcases List.mem_append.1 hz with hz | hz
  ·exact h.nn z hz
  ·rw [List.mem_singleton] at hz; omega
 ·rw [moreU_len] at hr
  have := h.eqs r (by rw [made_rows]; exact hr)
  rw [cols_n] at this
  rw [colsU, moreU_B hr, ← this, sumZ]
  have h0 : (l ++ [0]).getD x.n 0 = 0 := by rw [← hl]; exact getD_end l 0
  rw [h0, Int.mul_zero, Int.add_zero]
  exact sumZ_congr fun j hj => by rw [moreU_A hr hj, getD_left (by omega)]
end Go.Proofs.YtofmjkgaaphnkaaGreatDoor
/- LinMoreM: What LinearMore has in memory. -/
namespace Go.Proofs.YtofmjkgaaphnkaaGreatDoor
open Go.RowKit Putlog

/-- An owned row's block is not a box of another type. -/
theorem own_box {w : World} {B sz n p : Nat} {t t' : TypeId} {v : Value} {xs l : List Value} (h : w.ownsRow B t sz v n xs) (hb : BlkB t' p l w) (ht : t ≠ t') : ∀ k, v.ownBlock = some k → k ≠ p := fun k hk e => by
 subst e
 rcases h.2 with ⟨h0, _⟩ | ⟨g, cap, cur, hv, hg, hh, _⟩
 ·rw [h0] at hk; cases hk
 ·rw [hv] at hk
  cases hk
  unfold BlkB at hb
  rw [hh] at hb
  injection hb with h1
  injection h1 with h2 h3
  exact ht h3
theorem eq_ne_sys : (60 : TypeId) ≠ 27 := by decide
theorem int_ne_sys : (3 : TypeId) ≠ 27 := by decide
theorem int_ne_eq : (3 : TypeId) ≠ 60 := by decide
theorem SysO.setBox {B p i : Nat} {w : World} {L : List RowX} {v u : Value} {l : List Value} (h : SysO B w L v) (hb : BlkB 27 p l w) : SysO B (w.setCell ⟨p, i, none⟩ u) L v :=
 h.keep (fun k e => heap_setCell_other _ _ _ _ (by show k ≠ p; exact own_box h.top hb eq_ne_sys k e)) (fun r hr k e => heap_setCell_other _ _ _ _ (by show k ≠ p; exact own_box (h.rows r hr) hb int_ne_sys k e))
/-- Two systems in boxes, of which nothing lies at N or above. -/
structure TwoO (N : Nat) (Bs Bt : Nat) (Ls Lt : List RowX) (vs vt : Value) (cs ct : Int) (ps pt : Nat) (w : World) : Prop where
 s : SysO Bs w Ls vs
 sl : LtN N Ls vs
 sb : BlkB 27 ps [.int .i64 cs, vs] w
 t : SysO Bt w Lt vt
 tl : LtN N Lt vt
 tb : BlkB 27 pt [.int .i64 ct, vt] w
 sp : ps < N
 tp : pt < N
theorem TwoO.keep {N Bs Bt : Nat} {Ls Lt : List RowX} {vs vt : Value} {cs ct : Int} {ps pt : Nat} {w w' : World} (h : TwoO N Bs Bt Ls Lt vs vt cs ct ps pt w) (hk : KeepN N w w') : TwoO N Bs Bt Ls Lt vs vt cs ct ps pt w' :=
 ⟨h.s.keepN h.sl hk, h.sl, hk.blk h.sb h.sp, h.t.keepN h.tl hk, h.tl, hk.blk h.tb h.tp, h.sp, h.tp⟩
theorem LtN.mono {N M : Nat} {L : List RowX} {v : Value} (h : LtN N L v) (hM : N ≤ M) : LtN M L v := ⟨fun k e => Nat.lt_of_lt_of_le (h.1 k e) hM, fun r hr k e => Nat.lt_of_lt_of_le (h.2 r hr k e) hM⟩
theorem rows_i64 {x : NumX} {L : List RowX} (h : L.map RowX.p = (madeS x).rows) : ∀ r ∈ L, (∀ z ∈ r.coef, I64 z) ∧ I64 r.val := fun r hr => by
 have hm : r.p ∈ (madeS x).rows := by rw [← h]; exact List.mem_map_of_mem hr
 obtain ⟨i, hi, hp⟩ := made_mem hm
 unfold RowX.p at hp
 have h1 : r.coef = (rowX x i).1 := by rw [← hp]
 have h2 : r.val = (rowX x i).2 := by rw [← hp]
 refine ⟨fun z hz => ?_, ?_⟩
 ·rw [h1] at hz; have := rowX_coef hz; unfold I64; omega
 ·rw [h2]; have := rowX_val x i; unfold I64; omega
/-- A store into an owned row. -/
theorem own_put {w : World} {B sz n c g i : Nat} {t : TypeId} {xs : List Value} {u : Value} (h : w.ownsRow B t sz (.slice (some ⟨g, 0, none⟩) n c) n xs) (hi : i < xs.length) : (w.setCell ⟨g, i, none⟩ u).ownsRow B t sz (.slice (some ⟨g, 0, none⟩) n c) n (xs.set i u) := by
 obtain ⟨h0, hv | ⟨g', cap, cur, hv, hg, hh, h1, h2, h3, h4⟩⟩ := h
 ·obtain ⟨h1, _⟩ := hv; cases h1
 ·cases hv
  refine ⟨by rw [List.length_set]; exact h0, .inr ⟨g, c, cur.setIfInBounds i u, rfl, hg, heap_setCell_same w g i _ _ u hh, h1, h2, by rw [Array.size_setIfInBounds]; exact h3, ?_⟩⟩
  rw [Array.toList_setIfInBounds, ← h4, List.take_set]
theorem rowsU_set : ∀ {L : List RowX} {k : Nat} {r : RowX}, k < L.length → r.val = (L.getD k r).val → rowsU (L.set k r) = (rowsU L).set (k * 2) r.v
 | q :: L, 0, r, _, hv => by
  have e : r.val = q.val := hv
  show rowU r ++ rowsU L = (rowU q ++ rowsU L).set 0 r.v
  unfold rowU; rw [e]; rfl
 | q :: L, k + 1, r, h, hv => by
  have hk : k < L.length := by simpa using h
  have := rowsU_set (r := r) hk (by simpa using hv)
  show rowU q ++ rowsU (L.set k r) = (rowU q ++ rowsU L).set ((k + 1) * 2) r.v
  rw [this, List.set_append_right _ _ (by simp [rowU]; omega)]
  rw [show (rowU q).length = 2 from rfl, show (k + 1) * 2 - 2 = k * 2 by omega]
/-- Another row in the place of number k: what has been appended to its coefficients, stored. -/
theorem SysO.setRow {B g n c k : Nat} {w w' : World} {L : List RowX} {r : RowX} (h : SysO B w L (.slice (some ⟨g, 0, none⟩) n c)) (hk : k < L.length) (hn : n = L.length) {q : RowX} (hq : q = L.getD k r) (hv : r.val = q.val)
  (hown : w'.ownsRow B 3 1 r.v r.coef.length (intsV r.coef)) (hg : w.grownBy w' q.v.ownBlock) (hat : r.v.ownBlock = q.v.ownBlock ∨ r.v.ownBlock = some w.heap.size) :
  SysO B (w'.setCell ⟨g, k * 2, none⟩ r.v) (L.set k r) (.slice (some ⟨g, 0, none⟩) n c) := by
 have hqm : q ∈ L := by rw [hq, List.getD_eq_getElem?_getD, List.getElem?_eq_getElem hk]; exact List.getElem_mem hk
 have hget : L[k] = q := by rw [hq, List.getD_eq_getElem?_getD, List.getElem?_eq_getElem hk]; rfl
 have htop : w'.ownsRow B 60 2 (.slice (some ⟨g, 0, none⟩) n c) L.length (rowsU L) := own_keep h.top (fun p e => hg.block p (own_lt h.top p e).2 (fun e2 => h.free hqm p e2.symm e))
 subst hn
 have hgr : r.v.ownBlock ≠ some g := fun e => own_type hown htop int_ne_eq g e rfl
 have hrest : ∀ (p : Nat) (z : RowX), z ∈ L → z.v.ownBlock = some p → q.v.ownBlock ≠ some p → w'.ownsRow B 3 1 z.v z.coef.length (intsV z.coef) := fun p z hz e he => own_keep (h.rows z hz) (fun p' e' => hg.block p' (own_lt (h.rows z hz) p' e').2 (fun e2 => by rw [e] at e'; cases e'; exact he e2.symm))
 have hap : ∀ i j : Nat, ∀ (hi : i < L.length) (hj : j < L.length), i < j → ∀ p, (L[i]).v.ownBlock = some p → (L[j]).v.ownBlock ≠ some p := fun i j hi hj hij p e => (List.pairwise_iff_getElem.1 h.apart) i j hi hj hij p e
 have hne : ∀ i : Nat, ∀ (hi : i < L.length), i ≠ k → ∀ p, (L[i]).v.ownBlock = some p → q.v.ownBlock ≠ some p := fun i hi hik p e e2 => by
  rcases Nat.lt_or_gt_of_ne hik with h' | h'
  ·exact hap i k hi hk h' p e (by rw [hget]; exact e2)
  ·exact hap k i hk hi h' p (by rw [hget]; exact e2) e
 have hner : ∀ i : Nat, ∀ (hi : i < L.length), i ≠ k → ∀ p, (L[i]).v.ownBlock = some p → r.v.ownBlock ≠ some p := fun i hi hik p e e2 => by
  rcases hat with h' | h'
  ·rw [h'] at e2; exact hne i hi hik p e e2
  ·rw [h'] at e2; cases e2
   have := (own_lt (h.rows _ (List.getElem_mem hi)) _ e).2
   omega
 refine ⟨?_, fun z hz => ?_, ?_⟩
 ·rw [rowsU_set hk (by rw [hv, hq]), List.length_set]
  exact own_put htop (by rw [rowsU_len]; omega)
 ·obtain ⟨i, hi, rfl⟩ := List.getElem_of_mem hz
  rw [List.length_set] at hi
  rw [List.getElem_set]
  by_cases hik : k = i
  ·rw [if_pos hik]
   exact own_set hown (fun p e e2 => hgr (by rw [e, e2]))
  ·rw [if_neg hik]
   cases ho : (L[i]).v.ownBlock with
   | none =>
    have := h.rows _ (List.getElem_mem hi)
    exact own_keep this (fun p e => by rw [ho] at e; cases e)
   | some p =>
    have h1 := hrest p _ (List.getElem_mem hi) ho (hne i hi (fun e => hik e.symm) p ho)
    exact own_set h1 (fun p' e e2 => h.free (List.getElem_mem hi) p' e (by rw [← e2]; rfl))
 ·rw [List.pairwise_iff_getElem]
  intro i j hi hj hij p e
  rw [List.length_set] at hi hj
  rw [List.getElem_set] at e ⊢
  by_cases hik : k = i
  ·rw [if_pos hik] at e
   rw [if_neg (by omega)]
   exact fun e2 => hner j hj (by omega) p e2 e
  ·rw [if_neg hik] at e
   by_cases hjk : k = j
   ·rw [if_pos hjk]; exact hner i hi (fun e => hik e.symm) p e
   ·rw [if_neg hjk]; exact hap i j hi hj hij p e
theorem own_frozen {w : World} {B sz n c g : Nat} {t : TypeId} {xs : List Value} (h : w.ownsRow B t sz (.slice (some ⟨g, 0, none⟩) n c) n xs) (i : Nat) : w.frozen? ⟨g, i, none⟩ = false := by
 rcases h.2 with ⟨h0, _⟩ | ⟨g', cap, cur, hv, hg, hh, _⟩
 ·cases h0
 ·cases hv
  exact frozen_of_row w g i _ _ hh
theorem sbox_kept {w w9 : World} {o : Obj} {v u : Value} {ps pt i : Nat} {l : List Value} {t : TypeId} {z : Value} (hb : BlkB t ps l w) (hg : (w.alloc o).grownBy w9 v.ownBlock) (hv : ∀ g, v.ownBlock = some g → ps + 1 ≤ g ∧ pt ≠ g) (hpt : ps + 1 ≤ pt) (_hps : ps < w.heap.size) (j : Nat) (hz : l[j]? = some z) : (w9.setCell ⟨pt, i, none⟩ u).cell? ⟨ps, j, none⟩ = some z := by
 have h1 := kept_blk hg (hb.via (alloc_belowL w o)) (fun g e => by have := (hv g e).1; omega)
 exact (BlkB.other h1 (by omega)).cell hz
theorem sys_of {x : NumX} {B : Nat} {w : World} {L : List RowX} {a : Option Addr} {c : Nat} (h : SysO B w L (.slice a x.m c)) (hL : L.map RowX.p = (madeS x).rows) : SysM w (madeS x) a c := by
 obtain ⟨a', c', hv, hs⟩ := h.sysM (cols := (x.n : Nat)) (by have := x.n_bounds; unfold I64; omega) (rows_i64 hL)
 have hl : L.length = x.m := by have := congrArg List.length hL; rw [List.length_map, made_rows] at this; exact this
 rw [hl] at hv
 cases hv
 have : madeS x = ⟨(x.n : Nat), L.map RowX.p⟩ := by rw [hL]; rfl
 rw [this]; exact hs
theorem sys_ofT {x : NumX} {row : List Int} {v : Int} {B : Nat} {w : World} {L : List RowX} {a : Option Addr} {c : Nat} (hv : -50 ≤ v ∧ v ≤ 50) (h : SysO B w L (.slice a (x.m + 1) c)) (hL : L.map RowX.p = (moreT x row v).rows) : SysM w (moreT x row v) a c := by
 have hI : ∀ r ∈ L, (∀ z ∈ r.coef, I64 z) ∧ I64 r.val := fun r hr => by
  have hm : r.p ∈ (moreT x row v).rows := by rw [← hL]; exact List.mem_map_of_mem hr
  have hb := moreT_valid x row hv
  refine ⟨fun z hz => ?_, ?_⟩
  ·have := hb.coef r.p hm z hz; unfold I64; omega
  ·have := hb.val r.p hm; unfold RowX.p at this; unfold I64; dsimp only at this; omega
 obtain ⟨a', c', hv', hs⟩ := h.sysM (cols := (x.n : Nat)) (by have := x.n_bounds; unfold I64; omega) hI
 have hl : L.length = x.m + 1 := by have := congrArg List.length hL; rw [List.length_map, moreT_len] at this; exact this
 rw [hl] at hv'
 cases hv'
 have : moreT x row v = ⟨(x.n : Nat), L.map RowX.p⟩ := by rw [hL]; rfl
 rw [this]; exact hs
theorem sys_ofU {x : NumX} {col : List Int} {B : Nat} {w : World} {L : List RowX} {a : Option Addr} {c : Nat} (h : SysO B w L (.slice a x.m c)) (hL : L.map RowX.p = (moreU x col).rows) : SysM w (moreU x col) a c := by
 have hI : ∀ r ∈ L, (∀ z ∈ r.coef, I64 z) ∧ I64 r.val := fun r hr => by
  have hm : r.p ∈ (moreU x col).rows := by rw [← hL]; exact List.mem_map_of_mem hr
  have hb := moreU_valid x col
  refine ⟨fun z hz => ?_, ?_⟩
  ·have := hb.coef r.p hm z hz; unfold I64; omega
  ·have := hb.val r.p hm; unfold RowX.p at this; unfold I64; dsimp only at this; omega
 obtain ⟨a', c', hv', hs⟩ := h.sysM (cols := ((x.n + 1 : Nat) : Int)) (by have := x.n_bounds; unfold I64; omega) hI
 have hl : L.length = x.m := by have := congrArg List.length hL; rw [List.length_map, moreU_len] at this; exact this
 rw [hl] at hv'
 cases hv'
 have : moreU x col = ⟨((x.n + 1 : Nat) : Int), L.map RowX.p⟩ := by rw [hL]; rfl
 rw [this]; exact hs
/-- The rows of u under way: k of them have their further coefficient. -/
def moreW (x : NumX) (col : List Int) (k i : Nat) : List Int × Int := if i < k then moreR x col i else rowX x i
theorem moreW_set (x : NumX) (col : List Int) {k : Nat} : ((List.range x.m).map (moreW x col k)).set k (moreR x col k) = (List.range x.m).map (moreW x col (k + 1)) := by
 apply List.ext_getElem?
 intro i
 rw [List.getElem?_set]
 by_cases hi : i < x.m
 ·by_cases e : k = i
  ·subst e
   rw [if_pos rfl, if_pos (by simpa using hi), List.getElem?_map, List.getElem?_range hi]
   simp [moreW]
  ·rw [if_neg e, List.getElem?_map, List.getElem?_map, List.getElem?_range hi]
   simp only [Option.map_some, moreW]
   by_cases h : i < k
   ·rw [if_pos h, if_pos (by omega)]
   ·rw [if_neg h, if_neg (by omega)]
 ·have h1 : ((List.range x.m).map (moreW x col (k + 1)))[i]? = none := List.getElem?_eq_none (by simp; omega)
  rw [h1]
  split
  ·rw [if_neg (by simp; omega)]
  ·exact List.getElem?_eq_none (by simp; omega)
theorem moreW_zero (x : NumX) (col : List Int) : (List.range x.m).map (moreW x col 0) = (madeS x).rows := by
 unfold madeS
 refine List.map_congr_left fun i _ => ?_
 unfold moreW; rw [if_neg (by omega)]
theorem moreW_all (x : NumX) (col : List Int) : (List.range x.m).map (moreW x col x.m) = (moreU x col).rows := by
 unfold moreU
 refine List.map_congr_left fun i hi => ?_
 unfold moreW; rw [if_pos (List.mem_range.1 hi)]
end Go.Proofs.YtofmjkgaaphnkaaGreatDoor
/- LinLowest: The contract of lowest. -/
namespace Go.Proofs.YtofmjkgaaphnkaaGreatDoor
open Go.RowKit Putlog

theorem info_vec : (Tryz.prog.info? 30).map (·.size) = some 2 := by kernel_rfl
theorem results_vec {fn : Func} {p : Tmp} (h : fn.results = #[.cell p 30]) (tmps : Array Value) (w : World) (g : Nat) (l : List Value) (hl : l.length = 2) (hp : tmps.getD p undef = .pointer (some ⟨g, 0, none⟩)) (hg : BlkB 30 g l w) :
  (results fn tmps).run Tryz.prog w = .ok (.agg l.toArray) w := by
 have hp' : tmps[p]?.getD undef = .pointer (some ⟨g, 0, none⟩) := by simpa using hp
 simp [results, h, hp', asAddr, run_loadVar_row w g _ _ _ _ _ hg Tryz.underlying30 rfl (by rw [info_vec, List.size_toArray, hl])]
theorem strV_get {l : List ByteArray} {j : Nat} {u : Value} (h : (strV l)[j]? = some u) : ∃ hj : j < l.length, u = .string l[j] := by
 unfold strV at h
 rw [List.getElem?_map] at h
 cases e : l[j]? with
 | none => rw [e] at h; cases h
 | some x =>
  rw [e] at h
  obtain ⟨hj, hx⟩ := List.getElem?_eq_some_iff.1 e
  exact ⟨hj, by rw [hx]; cases h; rfl⟩
set_option maxRecDepth 100000 in
set_option maxHeartbeats 4000000 in
theorem lowest_f (l : List ByteArray) (den : ByteArray) (g o cap B : Nat) (W : World) (hl : ∀ j (hj : j < l.length), W.cell? ⟨g, o + j, none⟩ = some (.string l[j])) (hs : ∀ t ∈ l, Sized t) (hden : Sized den) (hc1 : l.length ≤ cap) (hc2 : (cap : Int) ≤ 9223372036854775807) (hlb : l.length ≤ 1000) (hsp : l.length + 1 ≤ cap → (W.cell? ⟨g, o + l.length, none⟩).isSome = true ∧ W.frozen? ⟨g, o + l.length, none⟩ = false ∧ B ≤ g) (hBW : B ≤ W.heap.size) :
  Calls Tryz.prog 56 #[.slice (some ⟨g, o, none⟩) l.length cap, .string den] W fun e w' => (∃ q : Nat, e = .returned (.agg #[.slice (some ⟨q, 0, none⟩) l.length (l.length + 1), .string ((divL (l ++ [den])).getD l.length ByteArray.empty)]) ∧ W.heap.size ≤ q ∧ BlkB 9 q (strV (divL (l ++ [den]))) w') ∧ Below B W w' ∧ ∀ k, k < W.heap.size → k ≠ g → w'.heap[k]? = W.heap[k]? := by
 obtain ⟨i0, hi0, hz0, hz1, hz2⟩ := info_ex inf_str
 have HI0 := Lib.hid hi0
 have HZ0 := Lib.hid hz0
 have HZ1 := Lib.hid hz1
 have HZ2 := Lib.hid hz2
 obtain ⟨n, hn⟩ : ∃ n, n = l.length := ⟨_, rfl⟩
 obtain ⟨m, hm⟩ : ∃ m, m = n + 1 := ⟨_, rfl⟩
 have HBW := Lib.hid hBW
 have hgl : 0 < n → g < W.heap.size := fun h => lt_of_cell (hl 0 (by omega))
 have hla : (l ++ [den]).length = m := by rw [List.length_append, hm, hn]; rfl
 have hdl : (divL (l ++ [den])).length = m := by unfold divL; rw [List.length_map, hla]
 have hsd : ∀ t ∈ l ++ [den], Sized t := fun t ht => (List.mem_append.1 ht).elim (hs t) (fun h => (List.mem_singleton.1 h) ▸ hden)
 have hdv : ∀ (w : World) (a : Option Addr) (ca : Nat), n + 1 ≤ ca ∧ (ca : Int) ≤ 9223372036854775807 → StrsFrom w a (l ++ [den]) → Calls Tryz.prog 77 #[.slice a m ca] w fun e w' => (∃ g : Nat, e = .returned (.slice (some ⟨g, 0, none⟩) m m) ∧ w.heap.size ≤ g ∧ BlkB 9 g (strV (divL (l ++ [den]))) w') ∧ Below w.heap.size w w' := fun w a ca hca hst => by
  have := divided_c (l ++ [den]) a ca w hst hsd (by rw [hla]; omega) hca.2 (by rw [hla]; omega)
  rw [hla] at this; exact this
 have HDVA := Lib.hid hdv
 have HL := Lib.hid hl
 have HLN := Lib.hid hn
 obtain ⟨dq, hdq⟩ : ∃ dq, dq = (divL (l ++ [den])).getD l.length ByteArray.empty := ⟨_, rfl⟩
 have hdg : (strV (divL (l ++ [den])))[n]? = some (.string dq) := by
  unfold strV
  rw [List.getElem?_map, List.getElem?_eq_getElem (by omega), hdq, List.getD_eq_getElem?_getD, ← hn, List.getElem?_eq_getElem (by omega)]; rfl
 have HDG := Lib.hid hdg
 rw [← hdq, ← hn, ← hm]
 rw [← hn] at hc1 hsp
 have hnm : (n : Int) < m := by omega
 have hn64 : (n : Int) ≤ 1000 := by omega
 have hm1 : (m : Int) ≤ 1001 := by omega
 have HMM := Lib.hid hm
 have hnc : (n : Int) ≤ cap := by omega
 have hnew : ∀ w : World, ∀ j u, [Value.string den][j]? = some u → (w.alloc (.cells #[.string den] 9)).cell? ((⟨w.heap.size, 0, none⟩ : Addr).add j) = some u := fun w => news_of_cell ((cell_of_row _ _ 0 _ _ _ (heap_alloc_new w (.cells #[.string den] 9))).trans rfl)
 have HNEW := Lib.hid hnew
 have hone : ∀ u ∈ [Value.string den], u.oneCell' = true := by intro u hu; simp at hu; subst hu; rfl
 have HONE := Lib.hid hone
 -- the world ahead of append
 have hb1 := alloc_belowL W (.cells #[.slice none 0 0, .string ⟨#[]⟩] 30)
 have g1 := heap_alloc_new W (.cells #[.slice none 0 0, .string ⟨#[]⟩] 30)
 have hb2 := alloc_belowL (W.alloc (.cells #[.slice none 0 0, .string ⟨#[]⟩] 30)) (.cells #[.string den] 9)
 have hb := belowVia hb2 hb1
 have eb : BlkB 30 W.heap.size [.slice none 0 0, .string ⟨#[]⟩] ((W.alloc (.cells #[.slice none 0 0, .string ⟨#[]⟩] 30)).alloc (.cells #[.string den] 9)) := heap_belowL hb2 g1
 have hsz : ((W.alloc (.cells #[.slice none 0 0, .string ⟨#[]⟩] 30)).alloc (.cells #[.string den] 9)).heap.size = W.heap.size + 1 + 1 := by simp
 have EB := Lib.hid eb
 have HB0 := Lib.hid hb
 have HSZ := Lib.hid hsz
 have hold : ∀ j u, (strV l)[j]? = some u → ((W.alloc (.cells #[.slice none 0 0, .string ⟨#[]⟩] 30)).alloc (.cells #[.string den] 9)).cell? ⟨g, o + j, none⟩ = some u := fun j u hu => by
  obtain ⟨hj, rfl⟩ := strV_get hu
  exact keptBelow hb (hl j hj)
 have HOLD := Lib.hid hold
 have hlv : (strV l).length = n * 1 := by unfold strV; rw [List.length_map]; omega
 have HLV := Lib.hid hlv
 have HNW := Lib.hid (hnew (W.alloc (.cells #[.slice none 0 0, .string ⟨#[]⟩] 30)))
 rw [alloc_sizeL] at HNW
 have HSP := Lib.hid hsp
 have HC2 := Lib.hid hc2
 clear hi0 hz0 hz1 hz2 hl hs hden hsd hc1 hc2 hBW hgl hla hdl hdv hdq hdg hn hm hnew hone hb1 g1 hb2 hb eb hold hlv hsz hsp
 by_cases hr : n + 1 ≤ cap
 ·obtain ⟨s1, s2, s3⟩ := HSP.out hr
  have hsp1 : ∀ j, j < [Value.string den].length → (((W.alloc (.cells #[.slice none 0 0, .string ⟨#[]⟩] 30)).alloc (.cells #[.string den] 9)).cell? ⟨g, o + n * 1 + j, none⟩).isSome = true ∧ ((W.alloc (.cells #[.slice none 0 0, .string ⟨#[]⟩] 30)).alloc (.cells #[.string den] 9)).frozen? ⟨g, o + n * 1 + j, none⟩ = false := fun j hj => by
   obtain rfl : j = 0 := by simpa using hj
   rw [Nat.mul_one, Nat.add_zero]
   obtain ⟨u, hu⟩ := Option.isSome_iff_exists.1 s1
   exact ⟨by rw [keptBelow HB0.out hu]; rfl, by rw [World.frozen?_of_block (HB0.out.block g (lt_of_cell hu))]; exact s2⟩
  have hgW : g < W.heap.size := by
   obtain ⟨u, hu⟩ := Option.isSome_iff_exists.1 s1
   exact lt_of_cell hu
  have HSP1 := Lib.hid hsp1
  have ho : OnlyAt g ((W.alloc (.cells #[.slice none 0 0, .string ⟨#[]⟩] 30)).alloc (.cells #[.string den] 9)) (((W.alloc (.cells #[.slice none 0 0, .string ⟨#[]⟩] 30)).alloc (.cells #[.string den] 9)).setCells g (o + n) [.string den]) := only_setCells _ _ _ _ _ (OnlyAt.refl _ _ (by rw [HSZ.out]; omega))
  have HBX := Lib.hid ((ho.rest W.heap.size (by omega)).trans EB.out)
  change Hid (BlkB 30 W.heap.size [.slice none 0 0, .string ⟨#[]⟩] (((W.alloc (.cells #[.slice none 0 0, .string ⟨#[]⟩] 30)).alloc (.cells #[.string den] 9)).setCells g (o + n) [.string den])) at HBX
  have HBB := Lib.hid (ho.below (HB0.out.mono HBW.out) s3)
  have HFR : Hid (∀ k, k < W.heap.size → k ≠ g → (((W.alloc (.cells #[.slice none 0 0, .string ⟨#[]⟩] 30)).alloc (.cells #[.string den] 9)).setCells g (o + n) [.string den]).heap[k]? = W.heap[k]?) := Lib.hid (fun k h1 h2 => (ho.rest k h2).trans (HB0.out.block k h1))
  have HSF : Hid (StrsFrom (((W.alloc (.cells #[.slice none 0 0, .string ⟨#[]⟩] 30)).alloc (.cells #[.string den] 9)).setCells g (o + n) [.string den]) (some ⟨g, o, none⟩) (l ++ [den])) := Lib.hid (.inr ⟨g, o, rfl, fun j hj => by
   rw [List.getD_eq_getElem?_getD, List.getElem?_eq_getElem hj]
   show World.cell? (World.setCell _ ⟨g, o + n, none⟩ _) _ = _
   by_cases e : j = n
   ·subst e
    rw [World.cell?_setCell_same' _ _ _ (by have := (hsp1 0 Nat.zero_lt_one).1; rw [Nat.mul_one, Nat.add_zero] at this; exact this)]
    congr 2
    rw [List.getElem_append_right (by have := HLN.out; omega)]; simp
   ·have hjl : j < l.length := by have := HLN.out; simp at hj; omega
    rw [World.cell?_setCell_other _ _ _ _ (by intro x; have := congrArg Addr.off x; dsimp only at this; omega)]
    rw [HOLD.out j (.string l[j]) (by unfold strV; rw [List.getElem?_map, List.getElem?_eq_getElem hjl]; rfl), List.getElem_append_left hjl]; rfl⟩)
  have HDV := Lib.hid (fun w h => HDVA.out w (some ⟨g, o, none⟩) cap ⟨hr, by have := HC2.out; omega⟩ h)
  have HSW : Hid (W.heap.size < (((W.alloc (.cells #[.slice none 0 0, .string ⟨#[]⟩] 30)).alloc (.cells #[.string den] 9)).setCells g (o + n) [.string den]).heap.size) := Lib.hid (by rw [ho.size, HSZ.out]; omega)
  clear s1 s2 s3 hsp1 ho
  go_enter Tryz.func56, Tryz.ntmps56
  go_wp2_with (at_builtin; go_must (refine wpList_append_arg _ rfl (.tmp 6) (.tmp 8) 28 rfl 9 i0 (.string ⟨#[]⟩) 1 16 Tryz.underlying28 HI0.out HZ0.out HZ1.out HZ2.out rfl (by decide) g o n cap (strV l) rfl HLV.out HOLD.out ⟨W.heap.size + 1, 0, none⟩ 1 1 [.string den] rfl rfl HNW.out HONE.out (fun _ => HSP1.out) (by unfold maxLen; omega) (by omega) (fun _ => ?_) (fun h => by omega)); rw [← HMM.out])
  refine (HDV.out _ HSF.out).mono ?_
  rintro e w7 ⟨⟨q, rfl, hq, hblk⟩, hB7⟩
  have hBF := belowB hB7 HBB.out HBW.out
  have HFR7 : Hid (∀ k, k < W.heap.size → k ≠ g → w7.heap[k]? = W.heap[k]?) := Lib.hid (fun k h1 h2 => (hB7.block k (by have := HSW.out; omega)).trans (HFR.out k h1 h2))
  have hWq : W.heap.size < q := by have := HSW.out; omega
  have hbx := HBX.out.via hB7
  have p0 := hbx.cell (i := 0) rfl
  have p1 := hbx.cell (i := 1) rfl
  have f0 := hbx.froz 0
  have f1 := hbx.froz 1
  have HBX9 : Hid (BlkB 30 W.heap.size [.slice (some ⟨q, 0, none⟩) n m, .string dq] ((w7.setCell ⟨W.heap.size, 0, none⟩ (.slice (some ⟨q, 0, none⟩) n m)).setCell ⟨W.heap.size, 1, none⟩ (.string dq))) := Lib.hid ((hbx.set 0 (.slice (some ⟨q, 0, none⟩) n m)).set 1 (.string dq))
  have HBL9 : Hid (BlkB 9 q (strV (divL (l ++ [den]))) ((w7.setCell ⟨W.heap.size, 0, none⟩ (.slice (some ⟨q, 0, none⟩) n m)).setCell ⟨W.heap.size, 1, none⟩ (.string dq))) := Lib.hid ((heap_setCell_other _ _ _ _ (Nat.ne_of_gt hWq)).trans ((heap_setCell_other _ _ _ _ (Nat.ne_of_gt hWq)).trans hblk))
  clear hbx
  have hqd := hblk.cell HDG.out
  have HBF := Lib.hid hBF
  clear hB7 hBF hblk hq
  go_wp2_with fail
  go_region
  have HBF2 : Hid (Below B W ((w7.setCell ⟨W.heap.size, 0, none⟩ (.slice (some ⟨q, 0, none⟩) n m)).setCell ⟨W.heap.size, 1, none⟩ (.string dq))) := Lib.hid ((HBF.out.setCell (p := ⟨W.heap.size, 0, none⟩) HBW.out _).setCell (p := ⟨W.heap.size, 1, none⟩) HBW.out _)
  have HFR9 : Hid (∀ k, k < W.heap.size → k ≠ g → ((w7.setCell ⟨W.heap.size, 0, none⟩ (.slice (some ⟨q, 0, none⟩) n m)).setCell ⟨W.heap.size, 1, none⟩ (.string dq)).heap[k]? = W.heap[k]?) := Lib.hid (fun k h1 h2 => (heap_setCell_other _ _ _ _ (Nat.ne_of_lt h1)).trans ((heap_setCell_other _ _ _ _ (Nat.ne_of_lt h1)).trans (HFR7.out k h1 h2)))
  generalize (w7.setCell ⟨W.heap.size, 0, none⟩ (.slice (some ⟨q, 0, none⟩) n m)).setCell ⟨W.heap.size, 1, none⟩ (.string dq) = w9 at *
  clear p0 p1 f0 f1 hqd
  go_wp2_with fail
  refine bodyPost_ret (results_vec rfl _ w9.drew W.heap.size [.slice (some ⟨q, 0, none⟩) n m, .string dq] rfl rfl HBX9.out) rfl ?_
  exact ⟨⟨q, rfl, by omega, HBL9.out⟩, HBF2.out.drew, HFR9.out⟩
 ·have hfull : cap < n + 1 := by omega
  go_enter Tryz.func56, Tryz.ntmps56
  go_wp2_with (at_builtin; go_must (refine wpList_append_grows _ rfl (.tmp 6) (.tmp 8) 28 rfl 9 i0 (.string ⟨#[]⟩) 1 16 Tryz.underlying28 HI0.out HZ0.out HZ1.out HZ2.out rfl (by decide) (some ⟨g, o, none⟩) n cap (strV l) rfl (fun h => by cases h) HLV.out (fun b hb j u hu => by cases hb; rw [Addr.add_mid]; exact HOLD.out j u hu) ⟨W.heap.size + 1, 0, none⟩ 1 1 [.string den] rfl rfl HNW.out HONE.out hfull (by unfold maxLen; omega) (by omega) ?_); intro v6 w6 hown hgrow; obtain ⟨g6, c6, rfl, hg6, hl6⟩ := hown.form (by omega); have HOWN := Lib.hid hown; have HGR := Lib.hid hgrow; clear hown hgrow; rw [← HMM.out])
  have hbw := belowMadeL HGR.out
  have HBX := Lib.hid (EB.out.via hbw)
  have HBB : Hid (Below B W w6) := Lib.hid ((belowVia hbw HB0.out).mono HBW.out)
  have HFR : Hid (∀ k, k < W.heap.size → k ≠ g → w6.heap[k]? = W.heap[k]?) := Lib.hid (fun k h1 _ => (hbw.block k (by rw [HSZ.out]; omega)).trans (HB0.out.block k h1))
  have hcap6 := own_cap HOWN.out
  have HSF : Hid (StrsFrom w6 (some ⟨g6, 0, none⟩) (l ++ [den])) := Lib.hid (.inr ⟨g6, 0, rfl, fun j hj => by
   rw [Nat.zero_add, List.getD_eq_getElem?_getD, List.getElem?_eq_getElem hj]
   refine (own_cell HOWN.out ?_).1
   have e : strV l ++ [Value.string den] = strV (l ++ [den]) := by unfold strV; rw [List.map_append]; rfl
   rw [e]; unfold strV; rw [List.getElem?_map, List.getElem?_eq_getElem hj]; rfl⟩)
  have HDV := Lib.hid (fun w h => HDVA.out w (some ⟨g6, 0, none⟩) c6 ⟨hcap6.1, hcap6.2.1⟩ h)
  have HSW : Hid (W.heap.size < w6.heap.size) := Lib.hid (by have := hbw.size; rw [HSZ.out] at this; omega)
  clear hbw hcap6 hg6 hl6
  refine (HDV.out _ HSF.out).mono ?_
  rintro e w7 ⟨⟨q, rfl, hq, hblk⟩, hB7⟩
  have hBF := belowB hB7 HBB.out HBW.out
  have HFR7 : Hid (∀ k, k < W.heap.size → k ≠ g → w7.heap[k]? = W.heap[k]?) := Lib.hid (fun k h1 h2 => (hB7.block k (by have := HSW.out; omega)).trans (HFR.out k h1 h2))
  have hWq : W.heap.size < q := by have := HSW.out; omega
  have hbx := HBX.out.via hB7
  have p0 := hbx.cell (i := 0) rfl
  have p1 := hbx.cell (i := 1) rfl
  have f0 := hbx.froz 0
  have f1 := hbx.froz 1
  have HBX9 : Hid (BlkB 30 W.heap.size [.slice (some ⟨q, 0, none⟩) n m, .string dq] ((w7.setCell ⟨W.heap.size, 0, none⟩ (.slice (some ⟨q, 0, none⟩) n m)).setCell ⟨W.heap.size, 1, none⟩ (.string dq))) := Lib.hid ((hbx.set 0 (.slice (some ⟨q, 0, none⟩) n m)).set 1 (.string dq))
  have HBL9 : Hid (BlkB 9 q (strV (divL (l ++ [den]))) ((w7.setCell ⟨W.heap.size, 0, none⟩ (.slice (some ⟨q, 0, none⟩) n m)).setCell ⟨W.heap.size, 1, none⟩ (.string dq))) := Lib.hid ((heap_setCell_other _ _ _ _ (Nat.ne_of_gt hWq)).trans ((heap_setCell_other _ _ _ _ (Nat.ne_of_gt hWq)).trans hblk))
  clear hbx
  have hqd := hblk.cell HDG.out
  have HBF := Lib.hid hBF
  clear hB7 hBF hblk hq
  go_wp2_with fail
  go_region
  have HBF2 : Hid (Below B W ((w7.setCell ⟨W.heap.size, 0, none⟩ (.slice (some ⟨q, 0, none⟩) n m)).setCell ⟨W.heap.size, 1, none⟩ (.string dq))) := Lib.hid ((HBF.out.setCell (p := ⟨W.heap.size, 0, none⟩) HBW.out _).setCell (p := ⟨W.heap.size, 1, none⟩) HBW.out _)
  have HFR9 : Hid (∀ k, k < W.heap.size → k ≠ g → ((w7.setCell ⟨W.heap.size, 0, none⟩ (.slice (some ⟨q, 0, none⟩) n m)).setCell ⟨W.heap.size, 1, none⟩ (.string dq)).heap[k]? = W.heap[k]?) := Lib.hid (fun k h1 h2 => (heap_setCell_other _ _ _ _ (Nat.ne_of_lt h1)).trans ((heap_setCell_other _ _ _ _ (Nat.ne_of_lt h1)).trans (HFR7.out k h1 h2)))
  generalize (w7.setCell ⟨W.heap.size, 0, none⟩ (.slice (some ⟨q, 0, none⟩) n m)).setCell ⟨W.heap.size, 1, none⟩ (.string dq) = w9 at *
  clear p0 p1 f0 f1 hqd
  go_wp2_with fail
  refine bodyPost_ret (results_vec rfl _ w9.drew W.heap.size [.slice (some ⟨q, 0, none⟩) n m, .string dq] rfl rfl HBX9.out) rfl ?_
  exact ⟨⟨q, rfl, by omega, HBL9.out⟩, HBF2.out.drew, HFR9.out⟩
theorem lowest_c (l : List ByteArray) (den : ByteArray) (g o cap B : Nat) (W : World) (hl : ∀ j (hj : j < l.length), W.cell? ⟨g, o + j, none⟩ = some (.string l[j])) (hs : ∀ t ∈ l, Sized t) (hden : Sized den) (hc1 : l.length ≤ cap) (hc2 : (cap : Int) ≤ 9223372036854775807) (hlb : l.length ≤ 1000) (hsp : l.length + 1 ≤ cap → (W.cell? ⟨g, o + l.length, none⟩).isSome = true ∧ W.frozen? ⟨g, o + l.length, none⟩ = false ∧ B ≤ g) (hBW : B ≤ W.heap.size) :
  Calls Tryz.prog 56 #[.slice (some ⟨g, o, none⟩) l.length cap, .string den] W fun e w' => (∃ q : Nat, e = .returned (.agg #[.slice (some ⟨q, 0, none⟩) l.length (l.length + 1), .string ((divL (l ++ [den])).getD l.length ByteArray.empty)]) ∧ W.heap.size ≤ q ∧ BlkB 9 q (strV (divL (l ++ [den]))) w') ∧ Below B W w' := (lowest_f l den g o cap B W hl hs hden hc1 hc2 hlb hsp hBW).mono fun e w' h => ⟨h.1, h.2.1⟩
end Go.Proofs.YtofmjkgaaphnkaaGreatDoor
/- LinPoint: The contracts of point and weights. -/
namespace Go.Proofs.YtofmjkgaaphnkaaGreatDoor
open Go.RowKit Putlog

theorem lim_100 : LIM.natAbs < 10 ^ 100 := by decide
theorem fits_lim {z : Int} (h1 : -LIM ≤ z) (h2 : z ≤ LIM) : Fits z := by
 have := lim_100
 have h3 : z.natAbs ≤ LIM.natAbs := by omega
 exact Nat.lt_of_le_of_lt h3 (Nat.lt_of_lt_of_le this (Nat.pow_le_pow_right (by decide) (by decide)))
section
variable {B n cols : Nat} {A : Nat → Nat → Int} {s : St} {G : Geo}
/-- The variables' values, as far as the first members tell them. -/
def ptK (s : St) (n k j : Nat) : Int := sumZ (fun q => if s.mem q = j then s.R q n else 0) k
def ptsT (s : St) (n cols k : Nat) : List ByteArray := (List.range cols).map fun j => intB (ptK s n k j)
theorem ptsT_len (s : St) (n cols k : Nat) : (ptsT s n cols k).length = cols := by simp [ptsT]
theorem ptsT_zero (s : St) (n cols : Nat) : strV (ptsT s n cols 0) = List.replicate cols (.string ⟨#[48]⟩) := by
 unfold strV ptsT
 apply List.ext_getElem?
 intro i
 by_cases h : i < cols
 ·rw [List.getElem?_replicate, if_pos h, List.map_map, List.getElem?_map, List.getElem?_range h]
  show some (Value.string (intB 0)) = _
  rw [intB_zero]
 ·rw [List.getElem?_eq_none (by simp; omega), List.getElem?_eq_none (by simp; omega)]
theorem ptsT_set {s : St} {n cols k j : Nat} (hj : j < cols) (hm : s.mem k = j) (h0 : ptK s n k j = 0) : (strV (ptsT s n cols k)).set j (.string (intB (s.R k n))) = strV (ptsT s n cols (k + 1)) := by
 unfold strV ptsT
 rw [List.map_map, List.map_map]
 apply List.ext_getElem?
 intro i
 rw [List.getElem?_set]
 by_cases h : i < cols
 ·rw [List.getElem?_map, List.getElem?_map, List.getElem?_range h]
  show _ = some (Value.string (intB (ptK s n (k + 1) i)))
  have e : ptK s n (k + 1) i = ptK s n k i + (if s.mem k = i then s.R k n else 0) := rfl
  rw [e, hm]
  by_cases x : j = i
  ·subst x; rw [if_pos rfl, if_pos (by simpa using hj), if_pos rfl, h0, Int.zero_add]
  ·rw [if_neg x, if_neg (by omega), Int.add_zero]; rfl
 ·rw [if_neg (by omega), List.getElem?_eq_none (by simp; omega), List.getElem?_eq_none (by simp; omega)]
theorem ptsT_skip {s : St} {n cols k : Nat} (hm : s.mem k < 0) : ptsT s n cols (k + 1) = ptsT s n cols k := by
 unfold ptsT
 refine List.map_congr_left fun i _ => ?_
 have e : ptK s n (k + 1) i = ptK s n k i + (if s.mem k = i then s.R k n else 0) := rfl
 rw [e, if_neg (by omega), Int.add_zero]
theorem ptK_no {C : Int → Nat → Int} {b : Nat → Int} (g : Putlog.Good n cols C b s) {k j : Nat} (hk : k < n) (hm : s.mem k = j) : ptK s n k j = 0 := sumZ_zero fun q hq => if_neg (fun e => by
 have := g.1.mem_inj (by omega : q < n) hk (by rw [e, hm]); omega)
set_option maxRecDepth 100000 in
set_option maxHeartbeats 8000000 in
theorem point_c {C : Int → Nat → Int} {b : Nat → Int} (W : World) (h : TabM W B n cols A s G) (hg : Putlog.Good n cols C b s) (hS : SmallT n cols A s) (hn : n ≤ 18) (hcols : cols ≤ 64) (hT : TabP W) :
  Calls Tryz.prog 39 #[.pointer (some ⟨G.T, 0, none⟩)] W fun e w' => (∃ q : Nat, e = .returned (.agg #[.slice (some ⟨q, 0, none⟩) cols (cols + 1), .string ((divL (ptsT s n cols n ++ [intB s.d])).getD cols ByteArray.empty)]) ∧ W.heap.size < q ∧ BlkB 9 q (strV (divL (ptsT s n cols n ++ [intB s.d]))) w') ∧ Below W.heap.size W w' := by
 have HH := Lib.hid h
 have HGD := Lib.hid hg
 have HS := Lib.hid hS
 have HT := Lib.hid hT
 obtain ⟨m, hm⟩ : ∃ m, m = n + 1 := ⟨_, rfl⟩
 have HM' := Lib.hid hm
 have c0 := h.cc
 have c1 := h.cms
 have hcm := h.lcm
 have hnm : (n : Int) < m := by omega
 have hm19 : (m : Int) ≤ 19 := by omega
 have hn18 : (n : Int) ≤ 18 := by omega
 have hc64 : (cols : Int) ≤ 64 := by omega
 obtain ⟨hcm1, hcm2⟩ := hcm
 have hncm : (n : Int) ≤ G.cm := by omega
 have HRP := Lib.hid (fun g w hx => repeat_c ⟨#[48]⟩ cols g w hcols hx)
 have HCL := Lib.hid hcols
 have hb1 := alloc_belowL W (.cells #[.slice none 0 0, .string ⟨#[]⟩] 30)
 have g1 : BlkB 30 W.heap.size [.slice none 0 0, .string ⟨#[]⟩] (W.alloc (.cells #[.slice none 0 0, .string ⟨#[]⟩] 30)) := heap_alloc_new W _
 have hb2 := alloc_belowL (W.alloc (.cells #[.slice none 0 0, .string ⟨#[]⟩] 30)) (.cells #[.string ⟨#[48]⟩] 9)
 have n0 : ((W.alloc (.cells #[.slice none 0 0, .string ⟨#[]⟩] 30)).alloc (.cells #[.string ⟨#[48]⟩] 9)).cell? ⟨W.heap.size + 1, 0, none⟩ = some (.string ⟨#[48]⟩) := by
  have := (cell_of_row _ _ 0 _ _ _ (heap_alloc_new (W.alloc (.cells #[.slice none 0 0, .string ⟨#[]⟩] 30)) (.cells #[.string ⟨#[48]⟩] 9))).trans rfl
  rw [alloc_sizeL] at this; exact this
 have c1a := keptBelow hb1 c1
 have c0a := keptBelow hb2 (keptBelow hb1 c0)
 have HC1 := Lib.hid c1
 have HBX := Lib.hid (g1.via hb2)
 have HB0 := Lib.hid (belowVia hb2 hb1)
 have HN0 := Lib.hid n0
 clear h hg hS hT hm hn hcols hcm1 hb1 g1 hb2 n0 c0 c1
 generalize hGT : G.T = T at *
 generalize hGgc : G.gc = gc at *
 generalize hGam : G.am = am at *
 generalize hGcm : G.cm = cm at *
 have HG := Lib.hid (And.intro hGT (And.intro hGam hGcm))
 clear hGT hGgc hGam hGcm
 go_enter Tryz.func39, Tryz.ntmps39
 go_wp2_with fail
 refine (HRP.out _ _ HN0.out).mono ?_
 rintro e w1 ⟨⟨p, rfl, hp, hblk⟩, hB1⟩
 have HBX1 := Lib.hid (HBX.out.via hB1)
 have HB1 := Lib.hid (belowVia hB1 HB0.out)
 have hbl : BlkB 9 p (strV (ptsT s n cols 0)) w1 := by rw [ptsT_zero]; exact hblk
 have HBL := Lib.hid hbl
 have hsz : ((W.alloc (.cells #[.slice none 0 0, .string ⟨#[]⟩] 30)).alloc (.cells #[.string ⟨#[48]⟩] 9)).heap.size = W.heap.size + 1 + 1 := by simp
 have HP : Hid (W.heap.size + 1 < p) := Lib.hid (by omega)
 clear hsz
 have c1 := keptBelow HB1.out HC1.out
 clear hp hblk hB1 hbl HBX HB0 HN0
 clear c1a c0a
 go_wp2_with fail
 clear c1 HC1
 go_loopw [24] (fun i wr => ∃ k : Nat, k ≤ n ∧ i = .int .i64 k ∧ BlkB 9 p (strV (ptsT s n cols k)) wr ∧ BlkB 30 W.heap.size [.slice none 0 0, .string ⟨#[]⟩] wr ∧ Below W.heap.size W wr) (fun i _ => n - (intOf i).toNat)
 case atStart => exact ⟨0, by omega, rfl, HBL.out, HBX1.out, HB1.out⟩
 case round =>
  clear HBL HBX1 HB1
  obtain ⟨k, hk, rfl, hbl, hbx, hB⟩ := hrel
  by_cases hlt : k < n
  ·have hlt' : (k : Int) < n := by omega
   have hkm : (k : Int) < m := by omega
   have hTM := HH.out.via hB
   obtain ⟨gm, hgm, hmm⟩ : ∃ gm, am = some ⟨gm, 0, none⟩ ∧ ∀ q, q < n → wr.cell? ⟨gm, q, none⟩ = some (.int .i64 (s.mem q)) := by
    rcases hTM.mem with h0 | ⟨gm, h1, _, _, _, h5⟩
    ·omega
    ·rw [HG.out.2.1] at h1; exact ⟨gm, h1, fun q hq => (h5 q hq).1⟩
   subst hgm
   have dm := hmm k hlt
   have hrange := HGD.out.2 k hlt
   by_cases hneg : s.mem k < 0
   ·have hsk : Hid (strV (ptsT s n cols (k + 1)) = strV (ptsT s n cols k)) := Lib.hid (by rw [ptsT_skip hneg])
    have HBL := Lib.hid hbl
    have HBX := Lib.hid hbx
    have HB := Lib.hid hB
    clear hbl hbx hB hTM hmm
    generalize s.mem k = mk at *
    go_wp2_with fail
    go_roundw
    case rel => exact ⟨k + 1, by omega, by go_num, by rw [hsk.out]; exact HBL.out, HBX.out, HB.out⟩
    case measure => simp [intOf]; omega
   ·obtain ⟨j, hj⟩ : ∃ j : Nat, s.mem k = j := ⟨(s.mem k).toNat, by omega⟩
    have hjc : j < cols := by omega
    have hset := ptsT_set (cols := cols) hjc hj (ptK_no HGD.out hlt hj)
    rw [hj] at dm
    have hj0 : (0 : Int) ≤ j := by omega
    have hjc' : (j : Int) < cols := by omega
    obtain ⟨r1, r2, r3, r4⟩ := hTM.rows k (by omega)
    have d2 := hTM.crs
    have hcr := hTM.lcr
    rw [← HM'.out] at r1
    rw [HG.out.1, ← HM'.out] at d2
    have x1 := num_range_at r2 (i := n) (by rw [rowOf_len]; omega)
    rw [rowOf_get _ _ (Nat.le_refl _)] at x1
    have hzb := HS.out.ent k (by omega) n (Nat.le_refl _)
    have hh := lim_hm
    have h1' := lim_one
    have HTX := Lib.hid (fun w h => text_num (s.R k n) (by omega) (by omega) w h)
    have hsz1 := sz_num (s.R k n)
    have hmc : (m : Int) ≤ G.cr := by have := HM'.out; omega
    have hcr2 := hcr.2
    have HSET := Lib.hid hset
    have HBL := Lib.hid hbl
    have HBX := Lib.hid hbx
    have HB := Lib.hid hB
    have HTP := Lib.hid (HT.out.via hB)
    clear hset hbl hbx hB hTM hmm hrange hj r2 r3 r4 hzb hh h1' hcr hneg
    generalize numL (s.R k n) = l1 at *
    generalize intB (s.R k n) = tx at *
    generalize G.rb k = rk at *
    generalize G.gr = gr at *
    generalize G.cr = cr at *
    go_wp2_with (refine wpList_load_mid rfl _ _ rfl rk (n * 10) rfl l1 _ x1 Tryz.underlying81 rfl hsz1 ?_)
    refine (HTX.out _ HTP.out).mono ?_
    rintro e w2 ⟨rfl, hB2⟩
    have hbl2 := HBL.out.via hB2
    have e1 : ∃ u, w2.cell? ⟨p, j, none⟩ = some u := ⟨_, hbl2.cell (List.getElem?_eq_getElem (by unfold strV; rw [List.length_map, ptsT_len]; omega))⟩
    obtain ⟨u, e1⟩ := e1
    have e2 := hbl2.froz j
    have hbl3 := hbl2.set j (.string tx)
    rw [HSET.out] at hbl3
    have HBL3 := Lib.hid hbl3
    have HBX3 : Hid (BlkB 30 W.heap.size [.slice none 0 0, .string ⟨#[]⟩] (w2.setCell ⟨p, j, none⟩ (.string tx))) := Lib.hid ((heap_setCell_other _ _ _ _ (Nat.ne_of_lt (Nat.lt_of_succ_lt HP.out))).trans (HBX.out.via hB2))
    have HB3 := Lib.hid ((belowVia hB2 HB.out).setCell (p := ⟨p, j, none⟩) (Nat.le_of_lt (Nat.lt_of_succ_lt HP.out)) (.string tx))
    clear hB2 hbl2 hbl3 HBL HBX HB HTP HSET x1
    go_wp2_with fail
    go_roundw
    case rel => exact ⟨k + 1, by omega, by go_num, HBL3.out, HBX3.out, HB3.out⟩
    case measure => simp [intOf]; omega
  ·obtain rfl : k = n := by omega
   have hTM := HH.out.via hB
   have x3 := hTM.com
   rw [HG.out.1] at x3
   have hsz3 := sz_num s.d
   have hd := HS.out.d
   have hh := lim_hm
   have h1' := lim_one
   have HTX := Lib.hid (fun w h => text_num s.d (by omega) (by omega) w h)
   have hsd : ∀ t ∈ ptsT s k cols k, Sized t := fun t ht => by
    obtain ⟨j, _, rfl⟩ := List.mem_map.1 ht
    have hj : ptK s k k j = ptX k s j := rfl
    rw [hj]
    by_cases hex : ∃ q, q < k ∧ s.mem q = j
    ·obtain ⟨q, hq, e⟩ := hex
     rw [ptX_mem HGD.out hq e]
     have := HS.out.ent q (by omega) k (Nat.le_refl _)
     exact sized_fits (fits_lim (by omega) (by omega))
    ·have e : ptX k s j = 0 := ptX_no (fun q hq e => hex ⟨q, hq, e⟩)
     rw [e]; exact sized_fits (fits_lim (by decide) (by decide))
   have hsden : Sized (intB s.d) := sized_fits (fits_lim (by omega) (by omega))
   have hlow : ∀ w, BlkB 9 p (strV (ptsT s k cols k)) w → _ := fun w hw => lowest_c (ptsT s k cols k) (intB s.d) p 0 cols w.heap.size w (fun j hj => by
    rw [Nat.zero_add]; exact hw.cell (by unfold strV; rw [List.getElem?_map, List.getElem?_eq_getElem hj]; rfl)) hsd hsden (by rw [ptsT_len]; exact Nat.le_refl _) (by have := HCL.out; omega) (by rw [ptsT_len]; have := HCL.out; omega) (fun h => by rw [ptsT_len] at h; omega) (Nat.le_refl _)
   rw [ptsT_len] at hlow
   have HLOW := Lib.hid hlow
   have HBL := Lib.hid hbl
   have HBX := Lib.hid hbx
   have HB := Lib.hid hB
   have HTP := Lib.hid (HT.out.via hB)
   have hcx := hTM.crs
   clear hlow hsd hsden hd hh h1' hTM hbl hbx hB hcx hlt hk
   generalize numL s.d = ld at *
   obtain ⟨DV, hdv⟩ : ∃ x, x = divL (ptsT s k cols k ++ [intB s.d]) := ⟨_, rfl⟩
   obtain ⟨dq, hdq⟩ : ∃ x, x = DV.getD cols ByteArray.empty := ⟨_, rfl⟩
   have HDG : Hid ((strV DV)[cols]? = some (.string dq)) := Lib.hid (by
    have hl : DV.length = cols + 1 := by rw [hdv]; unfold divL; rw [List.length_map, List.length_append, ptsT_len]; rfl
    unfold strV
    rw [hdq, List.getElem?_map, List.getD_eq_getElem?_getD, List.getElem?_eq_getElem (by omega)]; rfl)
   simp only [← hdv, ← hdq] at HLOW
   have HPO := Lib.hid (And.intro hdv hdq)
   clear hdv hdq
   go_wp2_with (refine wpList_load_mid rfl _ _ rfl T 3 rfl ld _ x3 Tryz.underlying81 rfl hsz3 ?_)
   refine (HTX.out _ HTP.out).mono ?_
   rintro e w2 ⟨rfl, hB2⟩
   have hbl2 := HBL.out.via hB2
   have hbx2 := HBX.out.via hB2
   have hB2' := belowVia hB2 HB.out
   have HL2 := Lib.hid (HLOW.out w2 hbl2)
   clear hB2 hbl2 HBL HBX HB HTP
   go_wp2_with fail
   refine HL2.out.mono ?_
   rintro e w3 ⟨⟨q, rfl, hq, hblk⟩, hB3⟩
   have hBF := belowVia hB3 hB2'
   have hWq : W.heap.size < q := Nat.lt_of_lt_of_le hbx2.lt hq
   have hbx := hbx2.via hB3
   have p0 := hbx.cell (i := 0) rfl
   have p1 := hbx.cell (i := 1) rfl
   have f0 := hbx.froz 0
   have f1 := hbx.froz 1
   have HBX9 : Hid (BlkB 30 W.heap.size [.slice (some ⟨q, 0, none⟩) cols (cols + 1), .string dq] ((w3.setCell ⟨W.heap.size, 0, none⟩ (.slice (some ⟨q, 0, none⟩) cols (cols + 1))).setCell ⟨W.heap.size, 1, none⟩ (.string dq))) := Lib.hid ((hbx.set 0 (.slice (some ⟨q, 0, none⟩) cols (cols + 1))).set 1 (.string dq))
   have HBL9 : Hid (BlkB 9 q (strV DV) ((w3.setCell ⟨W.heap.size, 0, none⟩ (.slice (some ⟨q, 0, none⟩) cols (cols + 1))).setCell ⟨W.heap.size, 1, none⟩ (.string dq))) := Lib.hid ((heap_setCell_other _ _ _ _ (Nat.ne_of_gt hWq)).trans ((heap_setCell_other _ _ _ _ (Nat.ne_of_gt hWq)).trans hblk))
   clear hbx hbx2
   have hqd := hblk.cell HDG.out
   have HBF := Lib.hid hBF
   have HQ := Lib.hid hWq
   clear hB3 hBF hblk hq hB2' HL2 hWq
   go_wp2_with fail
   have HBF2 : Hid (Below W.heap.size W ((w3.setCell ⟨W.heap.size, 0, none⟩ (.slice (some ⟨q, 0, none⟩) cols (cols + 1))).setCell ⟨W.heap.size, 1, none⟩ (.string dq))) := Lib.hid ((HBF.out.setCell (p := ⟨W.heap.size, 0, none⟩) (Nat.le_refl _) _).setCell (p := ⟨W.heap.size, 1, none⟩) (Nat.le_refl _) _)
   generalize (w3.setCell ⟨W.heap.size, 0, none⟩ (.slice (some ⟨q, 0, none⟩) cols (cols + 1))).setCell ⟨W.heap.size, 1, none⟩ (.string dq) = w9 at *
   refine bodyPost_ret (results_vec rfl _ w9 W.heap.size [.slice (some ⟨q, 0, none⟩) cols (cols + 1), .string dq] rfl rfl HBX9.out) rfl ?_
   rw [← HPO.out.1, ← HPO.out.2]
   exact ⟨⟨q, rfl, HQ.out, HBL9.out⟩, HBF2.out⟩
end
end Go.Proofs.YtofmjkgaaphnkaaGreatDoor
/- LinWeights: The contract of weights. -/
namespace Go.Proofs.YtofmjkgaaphnkaaGreatDoor
open Go.RowKit Putlog
section
variable {B n cols : Nat} {A : Nat → Nat → Int} {s : St} {G : Geo}
def wtsT (s : St) (n : Nat) : List ByteArray := (List.range n).map fun k => intB (0 - s.R n k)
theorem wtsT_len (s : St) (n : Nat) : (wtsT s n).length = n := by simp [wtsT]
set_option maxRecDepth 100000 in
set_option maxHeartbeats 8000000 in
theorem weights_c (W : World) (h : TabM W B n cols A s G) (hS : SmallT n cols A s) (hn : n ≤ 18) (hT : TabP W) :
  Calls Tryz.prog 42 #[.pointer (some ⟨G.T, 0, none⟩)] W fun e w' => (∃ q : Nat, e = .returned (.slice (some ⟨q, 0, none⟩) n n) ∧ W.heap.size ≤ q ∧ BlkB 9 q (strV (divL (wtsT s n))) w') ∧ Below W.heap.size W w' := by
 obtain ⟨i0, hi0, hz0, hz1, hz2⟩ := info_ex inf_str
 have HI0 := Lib.hid hi0
 have HZ0 := Lib.hid hz0
 have HZ1 := Lib.hid hz1
 have HZ2 := Lib.hid hz2
 have HH := Lib.hid h
 have HS := Lib.hid hS
 have HT := Lib.hid hT
 obtain ⟨m, hm⟩ : ∃ m, m = n + 1 := ⟨_, rfl⟩
 have HM' := Lib.hid hm
 have c1 := h.cms
 have d2 := h.crs
 have hcr := h.lcr
 have hcm := h.lcm
 obtain ⟨r1, r2, r3, r4⟩ := h.rows n (Nat.le_refl _)
 have hnm : (n : Int) < m := by omega
 have hnm' : (n : Int) ≤ m := by omega
 have hm19 : (m : Int) ≤ 19 := by omega
 have hn18 : (n : Int) ≤ 18 := by omega
 obtain ⟨hcm1, hcm2⟩ := hcm
 obtain ⟨hcr1, hcr2⟩ := hcr
 have hncm : (n : Int) ≤ G.cm := by omega
 have hmc : (m : Int) ≤ G.cr := by omega
 rw [← hm] at d2 r1
 have HC1 := Lib.hid c1
 have HD2 := Lib.hid d2
 have HR1 := Lib.hid r1
 have HR2 := Lib.hid r2
 have HB0 := Lib.hid (Below.refl W.heap.size W)
 clear h hS hT hm hn hcm1 hcr1 r2 r3 r4 d2 r1
 generalize hGT : G.T = T at *
 generalize hGam : G.am = am at *
 generalize hGcm : G.cm = cm at *
 generalize hGgr : G.gr = gr at *
 generalize hGcr : G.cr = cr at *
 generalize hGrb : G.rb n = rb at *
 clear hGT hGam hGcm hGgr hGcr hGrb
 go_enter Tryz.func42, Tryz.ntmps42
 go_wp2_with (at_make; go_must (refine wpList_make_full _ rfl _ _ 28 rfl W.heap.size 9 i0 (.string ⟨#[]⟩) 1 Tryz.underlying28 HI0.out HZ0.out HZ1.out .i64 .i64 (n : Int) (n : Int) n rfl rfl rfl rfl (by rw [HZ2.out]; omega) (by unfold maxLen; omega) (Nat.le_refl _) ?_); intro w1 hown hgrow; have HR := Lib.hid (blk_made (z := .string ⟨#[]⟩) rfl hown); have hBm := belowMadeL hgrow; have c1 := keptBelow hBm HC1.out; have d2 := keptBelow hBm HD2.out; have r1 := keptBelow hBm HR1.out; have HB1 := Lib.hid (belowVia hBm HB0.out); clear hown hgrow hBm)
 obtain ⟨p, hp⟩ : ∃ p, p = W.heap.size := ⟨_, rfl⟩
 rw [← hp] at HR ⊢
 have HP := Lib.hid hp
 clear hp
 clear HB0 HC1 HD2 HR1 c1 d2 r1
 go_loopw [24] (fun i wr => ∃ k : Nat, k ≤ n ∧ i = .int .i64 k ∧ BlkB 9 p (strV ((wtsT s n).take k) ++ List.replicate (n - k) (.string ⟨#[]⟩)) wr ∧ Below W.heap.size W wr) (fun i _ => n - (intOf i).toNat)
 case atStart => exact ⟨0, Nat.zero_le _, rfl, by simpa [strV] using HR.out, HB1.out⟩
 case round =>
  clear HR HB1
  obtain ⟨k, hk, rfl, hblk, hB⟩ := hrel
  by_cases hlt : k < n
  ·have hlt' : (k : Int) < n := by omega
   have hnb := HR2.out.via hB
   have x1 := num_range_at hnb (i := k) (by rw [rowOf_len]; omega)
   rw [rowOf_get _ _ (by omega)] at x1
   have hzb := HS.out.ent n (Nat.le_refl _) k (by omega)
   have hh := lim_hm
   have h1' := lim_one
   have htk : strV ((wtsT s n).take (k + 1)) = strV ((wtsT s n).take k) ++ [.string (intB (0 - s.R n k))] := by
    unfold strV
    rw [List.take_add_one, List.map_append]
    unfold wtsT
    rw [List.getElem?_map, List.getElem?_range hlt]; rfl
   have hpl : (strV ((wtsT s n).take k)).length = k := by unfold strV; rw [List.length_map, List.length_take, wtsT_len]; omega
   have hrp : List.replicate (n - k) (Value.string ⟨#[]⟩) = .string ⟨#[]⟩ :: List.replicate (n - (k + 1)) (.string ⟨#[]⟩) := by
    rw [show n - k = (n - (k + 1)) + 1 by omega, List.replicate_succ]
   rw [hrp] at hblk
   have HBK := Lib.hid hblk
   have HPL := Lib.hid hpl
   have HTK := Lib.hid htk
   have HB := Lib.hid hB
   have HTP := Lib.hid (HT.out.via hB)
   have HMI : Hid (∀ w, Calls Tryz.prog 73 #[.agg #[.int .u64 0, .int .u64 0, .int .u64 0, .int .u64 0, .int .u64 0, .int .u64 0, .int .u64 0, .int .u64 0, .int .u64 0, .int .u64 0], .agg (numL (s.R n k)).toArray] w fun e w' => e = .returned (.agg (numL (0 - s.R n k)).toArray) ∧ Below w.heap.size w w') := Lib.hid (fun w => by
    have := minus_num 0 (s.R n k) w; rw [num_zero] at this; exact this)
   have HTX := Lib.hid (fun w h => text_num (0 - s.R n k) (by omega) (by omega) w h)
   have hsz1 := sz_num (s.R n k)
   have hlg := numL_len (s.R n k)
   have hog := numL_one (s.R n k)
   clear hnb hzb hh h1' hrp hblk htk hpl hB
   generalize intB (0 - s.R n k) = tx at *
   generalize numL (0 - s.R n k) = l2 at *
   generalize numL (s.R n k) = lg at *
   have hb3 := alloc_belowL wr (.cells zeroL.toArray 81)
   have g3 : NumB wr.heap.size zeroL (wr.alloc (.cells zeroL.toArray 81)) := heap_alloc_new wr (.cells zeroL.toArray 81)
   have hst := store_num g3 rfl hlg hog
   have hbx : Below wr.heap.size wr ((wr.alloc (.cells zeroL.toArray 81)).setCells wr.heap.size 0 lg) := below_setCells wr.heap.size (Nat.le_refl _) lg _ 0 hb3
   have HNG : Hid (NumB wr.heap.size lg ((wr.alloc (.cells zeroL.toArray 81)).setCells wr.heap.size 0 lg)) := Lib.hid (setCells_whole (cs := zeroL.toArray) lg (by rw [hlg]; rfl) g3)
   have HB3 := Lib.hid (belowVia hbx HB.out)
   have HBK3 := Lib.hid (HBK.out.via hbx)
   have HTP3 := Lib.hid (HTP.out.via hbx)
   have hrg := num_range HNG.out
   change (storeCells ⟨wr.heap.size, 0, none⟩ lg 0).run Tryz.prog (wr.alloc (.cells #[.int .u64 0, .int .u64 0, .int .u64 0, .int .u64 0, .int .u64 0, .int .u64 0, .int .u64 0, .int .u64 0, .int .u64 0, .int .u64 0] 81)) = _ at hst
   clear hb3 g3 hbx HNG HB HBK HTP
   go_upto_region 6 with (refine wpList_load_mid rfl _ _ rfl rb (k * 10) rfl lg _ x1 Tryz.underlying81 rfl hsz1 ?_)
   generalize (wr.alloc (.cells zeroL.toArray 81)).setCells wr.heap.size 0 lg = w3 at *
   generalize wr.heap.size = pg at *
   clear hst x1
   go_wp2_with (refine wpList_load_mid rfl _ _ rfl pg 0 rfl lg _ hrg Tryz.underlying81 rfl hsz1 ?_)
   refine (HMI.out _).mono ?_
   rintro e w4 ⟨rfl, hB4⟩
   have HB4 := Lib.hid hB4
   clear hB4
   go_wp2_with fail
   refine (HTX.out _ (HTP3.out.via HB4.out)).mono ?_
   rintro e w5 ⟨rfl, hB5⟩
   have hb5 := belowVia hB5 HB4.out
   have hbk := HBK3.out.via hb5
   have d1 := hbk.cell (mid_one _ _ _ HPL.out)
   have d2 := hbk.froz k
   have HBK5 : Hid (BlkB 9 p (strV ((wtsT s n).take (k + 1)) ++ List.replicate (n - (k + 1)) (.string ⟨#[]⟩)) (w5.setCell ⟨p, k, none⟩ (.string tx))) := Lib.hid (by
    have := hbk.set k (.string tx)
    rw [mid_put _ _ _ _ HPL.out] at this
    rw [HTK.out, List.append_assoc]; exact this)
   have HB5 : Hid (Below W.heap.size W (w5.setCell ⟨p, k, none⟩ (.string tx))) := Lib.hid ((belowVia hb5 HB3.out).setCell (p := ⟨p, k, none⟩) (Nat.le_of_eq HP.out.symm) _)
   clear hb5 hbk hB5 HB4 HB3 HBK3 HTK
   go_wp2_with fail
   go_roundw
   case rel => exact ⟨k + 1, by omega, by go_num, HBK5.out, HB5.out⟩
   case measure => simp [intOf]; omega
  ·obtain rfl : n = k := by omega
   have htk : (wtsT s n).take n = wtsT s n := List.take_of_length_le (by rw [wtsT_len]; exact Nat.le_refl _)
   rw [htk, Nat.sub_self, List.replicate_zero, List.append_nil] at hblk
   have hsd : ∀ t ∈ wtsT s n, Sized t := fun t ht => by
    obtain ⟨j, hj, rfl⟩ := List.mem_map.1 ht
    have := HS.out.ent n (Nat.le_refl _) j (Nat.le_of_lt (List.mem_range.1 hj))
    exact sized_fits (fits_lim (by omega) (by omega))
   have hdv := divided_c (wtsT s n) (some ⟨p, 0, none⟩) n wr (.inr ⟨p, 0, rfl, fun j hj => by
    rw [Nat.zero_add, List.getD_eq_getElem?_getD, List.getElem?_eq_getElem hj]
    exact hblk.cell (by unfold strV; rw [List.getElem?_map, List.getElem?_eq_getElem hj]; rfl)⟩) hsd (by rw [wtsT_len]; exact Nat.le_refl _) (by omega) (by rw [wtsT_len]; omega)
   rw [wtsT_len] at hdv
   have HDV := Lib.hid hdv
   have HB := Lib.hid hB
   have hWs := hB.size
   have HWS := Lib.hid hWs
   clear htk hblk hsd hdv hB hWs
   go_wp2_with fail
   refine HDV.out.mono ?_
   rintro e w2 ⟨⟨q, rfl, hq, hbl⟩, hB2⟩
   have HB2 := Lib.hid (belowVia hB2 HB.out)
   have HBL := Lib.hid hbl
   have HQ := Lib.hid (Nat.le_trans HWS.out hq)
   clear hB2 hbl hq
   go_wp2_with fail
   go_ret
   exact ⟨⟨q, rfl, HQ.out, HBL.out⟩, HB2.out⟩
end
end Go.Proofs.YtofmjkgaaphnkaaGreatDoor
/- LinAns: What the last table says: the solution or the refutation, divided by its greatest common divisor; and how great a table's numbers are. -/
namespace Go.Proofs.YtofmjkgaaphnkaaGreatDoor
open Putlog

theorem gcdS_ints {a b : Int} (ha : Fits a) (hb : Fits b) : gcdS (intB a) (intB b) = intB ((Int.gcd a b : Nat) : Int) := by
 unfold gcdS; rw [op2_ints ha hb]; rfl
theorem gcdT_fold : ∀ (l : List Int) (g : Int), Fits g → (∀ z ∈ l, Fits z) → (l.map intB).foldl gcdS (intB g) = intB (gcdF' g l) ∧ Fits (gcdF' g l)
 | [], _, hg, _ => ⟨rfl, hg⟩
 | x :: l, g, hg, h => by
  have hx := h x (List.mem_cons_self ..)
  rw [List.map_cons, List.foldl_cons, gcdS_ints hg hx]
  exact gcdT_fold l _ (gcd_fits hg hx) (fun y hy => h y (List.mem_cons_of_mem _ hy))
theorem gcdT_ints {l : List Int} (h : ∀ z ∈ l, Fits z) : gcdT (l.map intB) = intB (gcdF' 0 l) ∧ Fits (gcdF' 0 l) := by
 have := gcdT_fold l 0 (by decide) h
 rw [intB_zero] at this
 exact this
theorem divL_ints {l : List Int} (h : ∀ z ∈ l, Fits z) (h0 : gcdF' 0 l ≠ 0) : divL (l.map intB) = (l.map (· / gcdF' 0 l)).map intB := by
 obtain ⟨h1, h2⟩ := gcdT_ints h
 unfold divL
 rw [h1, List.map_map, List.map_map]
 refine List.map_congr_left fun z hz => ?_
 show (divS (intB z) (intB (gcdF' 0 l))).1 = intB (z / _)
 rw [divS_ints (h z hz) h2 h0]
theorem natAbs_div_le (z g : Int) : (z / g).natAbs ≤ z.natAbs := Int.natAbs_ediv_le_natAbs z g
/-- A solution divided. -/
theorem sol_div {s : SysP} {l : List Int} {d : Int} (h : SolP s l d) (hl : ∀ z ∈ l, z.natAbs < L100) (hd : d.natAbs < L100) :
  ∃ (l' : List Int) (d' : Int), divL (l.map intB ++ [intB d]) = l'.map intB ++ [intB d'] ∧ l'.length = l.length ∧ (∀ z ∈ l', z.natAbs < L100) ∧ d'.natAbs < L100 ∧ SolP s l' d' := by
 have hf : ∀ z ∈ l ++ [d], Fits z := fun z hz => by
  rcases List.mem_append.1 hz with h1 | h1
  ·exact fits_100 (hl z h1)
  ·rw [List.mem_singleton] at h1; subst h1; exact fits_100 hd
 obtain ⟨_, hdv⟩ := gcdF_dvd (l ++ [d]) 0
 have hnn := gcdF_nn (l ++ [d]) 0 (Int.le_refl _)
 have hdd := hdv d (List.mem_append_right _ (List.mem_singleton.2 rfl))
 have hg0 : gcdF' 0 (l ++ [d]) ≠ 0 := fun e => by
  rw [e] at hdd
  have := Int.zero_dvd.1 hdd
  have := h.pos; omega
 have hg : 0 < gcdF' 0 (l ++ [d]) := by omega
 refine ⟨l.map (· / gcdF' 0 (l ++ [d])), d / gcdF' 0 (l ++ [d]), ?_, by simp, fun z hz => ?_, Nat.lt_of_le_of_lt (natAbs_div_le _ _) hd, h.lowest hg (fun x hx => hdv x (List.mem_append_left _ hx)) hdd⟩
 ·have e : l.map intB ++ [intB d] = (l ++ [d]).map intB := by simp
  rw [e, divL_ints hf hg0]; simp
 ·obtain ⟨y, hy, rfl⟩ := List.mem_map.1 hz
  exact Nat.lt_of_le_of_lt (natAbs_div_le _ _) (hl y hy)
/-- A refutation divided. -/
theorem ref_div {s : SysP} {w : List Int} (h : RefP s w) (hl : ∀ z ∈ w, z.natAbs < L100) :
  ∃ w' : List Int, divL (w.map intB) = w'.map intB ∧ (∀ z ∈ w', z.natAbs < L100) ∧ RefP s w' := by
 have hf : ∀ z ∈ w, Fits z := fun z hz => fits_100 (hl z hz)
 obtain ⟨_, hdv⟩ := gcdF_dvd w 0
 have hnn := gcdF_nn w 0 (Int.le_refl _)
 have hg0 : gcdF' 0 w ≠ 0 := fun e => by
  rw [e] at hdv
  have hz : sumZ (fun r => sysB s r * w.getD r 0) s.rows.length = 0 := sumZ_zero fun r hr => by
   have : w.getD r 0 = 0 := by
    rw [List.getD_eq_getElem?_getD]
    cases e : w[r]? with
    | none => rfl
    | some z => exact Int.zero_dvd.1 (hdv z (List.mem_of_getElem? e))
   rw [this, Int.mul_zero]
  have := h.val; omega
 have hg : 0 < gcdF' 0 w := by omega
 refine ⟨w.map (· / gcdF' 0 w), divL_ints hf hg0, fun z hz => ?_, h.lowest hg hdv⟩
 obtain ⟨y, hy, rfl⟩ := List.mem_map.1 hz
 exact Nat.lt_of_le_of_lt (natAbs_div_le _ _) (hl y hy)
section
variable {n cols : Nat} {A : Nat → Nat → Int} {b : Nat → Int}
theorem getD_rangeI (f : Nat → Int) {n j : Nat} (h : j < n) : ((List.range n).map f).getD j 0 = f j := by
 rw [List.getD_eq_getElem?_getD, List.getElem?_map, List.getElem?_range h]; rfl
theorem end_sol {s : SysP} (hv : ValidP s) {st : St} (g : Putlog.Good s.rows.length s.cols.toNat (sysC s.rows.length (sysA s) (sysB s)) (sysB s) st) (h0 : st.R s.rows.length s.rows.length = 0) : SolP s ((List.range s.cols.toNat).map (ptX s.rows.length st)) st.d := by
 refine ⟨?_, fun z hz => ?_, g.1.dpos, fun r hr => ?_⟩
 ·have := hv.lo; simp; omega
 ·obtain ⟨j, _, rfl⟩ := List.mem_map.1 hz; exact ptX_nonneg g j
 ·rw [← ends_found g h0 r hr]
  exact sumZ_congr fun j hj => by rw [getD_rangeI _ hj]
theorem end_ref {s : SysP} {st : St} (g : Putlog.Good s.rows.length s.cols.toNat (sysC s.rows.length (sysA s) (sysB s)) (sysB s) st) (h0 : st.R s.rows.length s.rows.length ≠ 0) (hg : ∀ j : Nat, j < s.cols.toNat → fall s.rows.length st.R (sysA s j) s.rows.length ≤ 0) : RefP s ((List.range s.rows.length).map fun k => 0 - st.R s.rows.length k) := by
 obtain ⟨h1, h2⟩ := ends_refuted g h0 hg
 refine ⟨by simp, fun j hj => ?_, ?_⟩
 ·have := h1 j hj
  rw [sumZ_congr (g := fun r => sysA s j r * -(st.R s.rows.length r)) fun r hr => by rw [getD_rangeI _ hr, Int.zero_sub]]
  exact this
 ·rw [sumZ_congr (g := fun r => sysB s r * -(st.R s.rows.length r)) fun r hr => by rw [getD_rangeI _ hr, Int.zero_sub]]
  exact h2
theorem limD_9 : ∀ n : Fin 10, limD n 1000000000 ≤ LIM ∧ (n : Int) * limD n 1000000000 ≤ LIM := by decide
theorem small_good {s : St} (g : Putlog.Good n cols (sysC n A b) b s) (hn : n ≤ 9) (hA : ∀ j i, -30000 ≤ A j i ∧ A j i ≤ 30000) (hb : ∀ i, -1000000000 ≤ b i ∧ b i ≤ 1000000000) (h0 : n = 0 → s.d ≤ LIM) : SmallT n cols A s := by
 obtain ⟨l1, l2⟩ := limD_9 ⟨n, by omega⟩
 dsimp only at l1 l2
 have hC : ∀ v : Int, -(n : Int) ≤ v → v < cols → ∀ r, -1000000000 ≤ sysC n A b v r ∧ sysC n A b v r ≤ 1000000000 := fun v _ _ r => by
  unfold sysC colOf
  split
  ·have := hA v.toNat r; omega
  ·split
   ·unfold sgV; split <;> omega
   ·omega
 have hU : ∀ i r, -1000000000 ≤ unitV i r ∧ unitV i r ≤ 1000000000 := fun i r => by unfold unitV; split <;> omega
 have hAj : ∀ j r, -1000000000 ≤ A j r ∧ A j r ≤ 1000000000 := fun j r => by have := hA j r; omega
 have b1 := fun v hv k hk => tab_bound g (X := 1000000000) (by decide) hC v hv (k := k) hk
 have b2 := fun v hv => tab_bound_all g (X := 1000000000) (by decide) hC v hv
 have hfal : ∀ (v : Nat → Int), (∀ r, -1000000000 ≤ v r ∧ v r ≤ 1000000000) → ∀ k, k ≤ n → -LIM ≤ fall n s.R v k ∧ fall n s.R v k ≤ LIM := fun v hv k hk => by
  rcases Nat.lt_or_ge k n with h | h
  ·have := b1 v hv k h; omega
  ·obtain rfl : k = n := by omega
   have := b2 v hv; omega
 refine ⟨⟨g.1.dpos, ?_⟩, fun k hk i hi => ?_, fun k hk j hj => hfal (A j) (hAj j) k hk⟩
 ·rcases Nat.eq_zero_or_pos n with e | e
  ·exact h0 e
  ·have h1 := g.1.vni 0 e 0 e
   rw [if_pos rfl] at h1
   rw [← h1]
   have h2 := g.2 0 e
   exact (hfal _ (hC _ h2.1 h2.2) 0 (Nat.zero_le _)).2
 ·rcases Nat.lt_or_ge i n with h | h
  ·rw [← unit_fall s.R h k]; exact hfal _ (hU i) k hk
  ·obtain rfl : i = n := by omega
   have hval : s.R k i = fall i s.R b k := by
    rcases Nat.lt_or_ge k i with h' | h'
    ·exact g.1.val k h'
    ·obtain rfl : k = i := by omega
     rw [g.1.all k (Nat.le_refl _), g.1.all_fall]
     exact sumZ_congr fun m hm => by rw [g.1.val m hm]
   rw [hval]; exact hfal b hb k hk
end
theorem ValidP.bounds {s : SysP} (h : ValidP s) : (∀ j i, -30000 ≤ sysA s j i ∧ sysA s j i ≤ 30000) ∧ ∀ i, -1000000000 ≤ sysB s i ∧ sysB s i ≤ 1000000000 := by
 refine ⟨fun j i => ?_, fun i => ?_⟩
 ·unfold sysA
  rcases Nat.lt_or_ge i s.rows.length with hi | hi
  ·have hm := getD_memR hi
   rw [List.getD_eq_getElem?_getD (l := (s.rows.getD i ([], 0)).1)]
   cases e : (s.rows.getD i ([], 0)).1[j]? with
   | none => simp
   | some z => exact h.coef _ hm z (List.mem_of_getElem? e)
  ·rw [List.getD_eq_getElem?_getD (l := s.rows), List.getElem?_eq_none hi]; simp
 ·unfold sysB
  rcases Nat.lt_or_ge i s.rows.length with hi | hi
  ·exact h.val _ (getD_memR hi)
  ·rw [List.getD_eq_getElem?_getD, List.getElem?_eq_none hi]; simp
end Go.Proofs.YtofmjkgaaphnkaaGreatDoor
/- LinWay: The ways of exchanges of Solve, one exchange longer; a state on a way is small. -/
namespace Go.Proofs.YtofmjkgaaphnkaaGreatDoor
open Putlog
/-- A state that a way from the first table leads to, with how many exchanges may follow. -/
def OnWay (s : SysP) (i : Nat) (st : St) : Prop :=
 ∃ (L : Nat) (ss : Nat → St) (e out : Nat → Nat), Putlog.Way s.rows.length s.cols.toNat (sysC s.rows.length (sysA s) (sysB s)) (sysB s) L ss e out ∧ ss 0 = startS s.rows.length (sysB s) ∧ ss L = st ∧ i + L = maxWay s.rows.length s.cols.toNat
theorem OnWay.start (s : SysP) : OnWay s (maxWay s.rows.length s.cols.toNat) (startS s.rows.length (sysB s)) :=
 ⟨0, fun _ => startS s.rows.length (sysB s), fun _ => 0, fun _ => 0, ⟨start_good, fun i hi => by omega⟩, rfl, rfl, rfl⟩
theorem OnWay.next {s : SysP} {i : Nat} {st st' : St} {q o : Nat} (h : OnWay s i st) (hs : StepT s.rows.length s.cols.toNat (sysC s.rows.length (sysA s) (sysB s)) st st' q o) : ∃ j, j < i ∧ OnWay s j st' := by
 obtain ⟨L, ss, e, out, hw, h0, hL, hi⟩ := h
 have hsh := hw.short
 refine ⟨i - 1, by omega, L + 1, fun k => if k ≤ L then ss k else st', fun k => if k < L then e k else q, fun k => if k < L then out k else o, ⟨?_, fun k hk => ?_⟩, ?_, ?_, by omega⟩
 ·simpa using hw.good
 ·by_cases hkL : k < L
  ·have := hw.step k hkL
   simp only [hkL, if_true, show k ≤ L by omega, show k + 1 ≤ L by omega]; exact this
  ·obtain rfl : k = L := by omega
   simp only [Nat.lt_irrefl, if_false, Nat.le_refl, if_true, show ¬ (k + 1 ≤ k) by omega]
   rw [hL]; exact hs
 ·simpa using h0
 ·exact if_neg (by omega)
theorem OnWay.good {s : SysP} {i : Nat} {st : St} (h : OnWay s i st) : Putlog.Good s.rows.length s.cols.toNat (sysC s.rows.length (sysA s) (sysB s)) (sysB s) st := by
 obtain ⟨L, ss, e, out, hw, _, rfl, _⟩ := h
 exact hw.goods L (Nat.le_refl _)
theorem OnWay.small {s : SysP} {i : Nat} {st : St} (h : OnWay s i st) (hv : ValidP s) (hn : s.rows.length ≤ 9) : SmallT s.rows.length s.cols.toNat (sysA s) st := by
 refine small_good h.good hn (ValidP.bounds hv).1 (ValidP.bounds hv).2 fun h0 => ?_
 obtain ⟨L, ss, e, out, hw, hs, rfl, _⟩ := h
 rcases Nat.eq_zero_or_pos L with e0 | e0
 ·subst e0; rw [hs]; exact lim_one
 ·have := (hw.step 0 e0).leaves.lt
  omega
theorem lt_L100 {z : Int} (h1 : -LIM ≤ z) (h2 : z ≤ LIM) : z.natAbs < L100 := by
 have := lim_100
 have h3 : z.natAbs ≤ LIM.natAbs := by omega
 exact Nat.lt_of_le_of_lt h3 this
theorem pt_ans {s : SysP} {st : St} (hv : ValidP s) (g : Putlog.Good s.rows.length s.cols.toNat (sysC s.rows.length (sysA s) (sysB s)) (sysB s) st) (hS : SmallT s.rows.length s.cols.toNat (sysA s) st) (h0 : st.R s.rows.length s.rows.length = 0) :
  ∃ (l : List Int) (d : Int), divL (ptsT st s.rows.length s.cols.toNat s.rows.length ++ [intB st.d]) = l.map intB ++ [intB d] ∧ (l.map intB ++ [intB d]).getD s.cols.toNat ByteArray.empty = intB d ∧ (∀ z ∈ l, z.natAbs < L100) ∧ d.natAbs < L100 ∧ SolP s l d := by
 have e : ptsT st s.rows.length s.cols.toNat s.rows.length = ((List.range s.cols.toNat).map (ptX s.rows.length st)).map intB := by
  unfold ptsT; rw [List.map_map]; rfl
 obtain ⟨l, d, h1, h2, h3, h4, h5⟩ := sol_div (end_sol hv g h0) (fun z hz => by
  obtain ⟨j, _, rfl⟩ := List.mem_map.1 hz
  by_cases hex : ∃ q, q < s.rows.length ∧ st.mem q = j
  ·obtain ⟨q, hq, e⟩ := hex
   rw [ptX_mem g hq e]
   have := hS.ent q (by omega) s.rows.length (Nat.le_refl _)
   exact lt_L100 this.1 this.2
  ·rw [ptX_no (fun q hq e => hex ⟨q, hq, e⟩)]
   exact lt_L100 (by decide) (by decide)) (lt_L100 (by have := hS.d; have := lim_one; omega) hS.d.2)
 refine ⟨l, d, by rw [e]; exact h1, ?_, h3, h4, h5⟩
 have hl : l.length = s.cols.toNat := by rw [h2]; simp
 rw [List.getD_eq_getElem?_getD, List.getElem?_append_right (by rw [List.length_map]; omega)]
 simp [hl]
theorem wt_ans {s : SysP} {st : St} (g : Putlog.Good s.rows.length s.cols.toNat (sysC s.rows.length (sysA s) (sysB s)) (sysB s) st) (hS : SmallT s.rows.length s.cols.toNat (sysA s) st) (h0 : st.R s.rows.length s.rows.length ≠ 0) (hg : ∀ j : Nat, j < s.cols.toNat → fall s.rows.length st.R (sysA s j) s.rows.length ≤ 0) :
  ∃ l : List Int, divL (wtsT st s.rows.length) = l.map intB ∧ (∀ z ∈ l, z.natAbs < L100) ∧ RefP s l := by
 have e : wtsT st s.rows.length = ((List.range s.rows.length).map fun k => 0 - st.R s.rows.length k).map intB := by
  unfold wtsT; rw [List.map_map]; rfl
 rw [e]
 refine ref_div (end_ref g h0 hg) (fun z hz => ?_)
 obtain ⟨j, hj, rfl⟩ := List.mem_map.1 hz
 have := hS.ent s.rows.length (Nat.le_refl _) j (Nat.le_of_lt (List.mem_range.1 hj))
 exact lt_L100 (by omega) (by omega)
end Go.Proofs.YtofmjkgaaphnkaaGreatDoor
/- LinJump: A scope whose jumps lower an index. -/
namespace Putlog
open Go
theorem least_nat {p : Nat → Prop} (h : ∃ i, p i) : ∃ i, p i ∧ ∀ j, p j → i ≤ j := by
 obtain ⟨n, hn⟩ := h
 induction n using Nat.strongRecOn with
 | _ n ih =>
  by_cases e : ∃ m, m < n ∧ p m
  ·obtain ⟨m, hm, hp⟩ := e; exact ih m hm hp
  ·exact ⟨n, hn, fun j hj => Nat.le_of_not_lt fun h => e ⟨j, h, hj⟩⟩
open Classical in
noncomputable def leastOf (p : Nat → Prop) : Nat := if h : ∃ i, p i then (least_nat h).choose else 0
theorem leastOf_spec {p : Nat → Prop} (h : ∃ i, p i) : p (leastOf p) ∧ ∀ j, p j → leastOf p ≤ j := by
 unfold leastOf; rw [dif_pos h]; exact (least_nat h).choose_spec
theorem jump_mono {l : Nat} {J J' : Act → World → Prop} {Q : Exit → Act → World → Prop} (h : ∀ a w, J a w → J' a w) : ∀ e a w, Exit.jump l J Q e a w → Exit.jump l J' Q e a w := fun e a w q => by
 cases e with
 | goto l' => exact ⟨q.1, h _ _ q.2⟩
 | normal => exact q
 | exit id => exact q
 | ret => exact q
 | panic ch => exact q
 | outgrown => exact q
theorem wp_scope_index {P : Program} {a : Act} {w : World} {Q : Exit → Act → World → Prop} {c rest : Code} (l : Nat) (J : Nat → Act → World → Prop) (hf : findLabel c l = some (Code.seq Code.skip rest))
  (pass : ∀ i a w, J i a w → rest.wp P (Exit.jump l (fun a' w' => ∃ j, j < i ∧ J j a' w') Q) a w)
  (first : (∀ i a w, J i a w → rest.wp P (Exit.jump l (fun a w => ∃ i, J i a w) Q) a w) → c.wp P (Exit.jump l (fun a w => ∃ i, J i a w) Q) a w) : (Code.scope c).wp P Q a w := by
 refine wp_scope_jumps l (fun a w => ∃ i, J i a w) (fun a w => leastOf fun i => J i a w) hf (first fun i a w h => Code.wp_mono (jump_mono fun a w h => ⟨h.choose, h.choose_spec.2⟩) (pass i a w h)) fun a w h => ?_
 obtain ⟨h1, _⟩ := leastOf_spec h
 refine wp_seq (wp_skip ?_)
 exact Code.wp_mono (jump_mono fun a' w' h' => by
  obtain ⟨j, hj, h2⟩ := h'
  exact ⟨⟨j, h2⟩, Nat.lt_of_le_of_lt ((leastOf_spec ⟨j, h2⟩).2 j h2) hj⟩) (pass _ a w h1)
end Putlog
/- LinSolve: The contract of Solve. -/
namespace Go.Proofs.YtofmjkgaaphnkaaGreatDoor
open Go.RowKit Putlog

theorem info_ans : (Tryz.prog.info? 38).map (·.size) = some 4 := by kernel_rfl
theorem results_ans {fn : Func} {p q : Tmp} (h : fn.results = #[.cell p 38, .tmp q]) (tmps : Array Value) (w : World) (g : Nat) (l : List Value) (z : Value) (hl : l.length = 4) (hp : tmps.getD p undef = .pointer (some ⟨g, 0, none⟩)) (hq : tmps.getD q undef = z) (hg : BlkB 38 g l w) :
  (results fn tmps).run Tryz.prog w = .ok (.tuple #[.agg l.toArray, z]) w := by
 have hp' : tmps[p]?.getD undef = .pointer (some ⟨g, 0, none⟩) := by simpa using hp
 have hq' : tmps[q]?.getD undef = z := by simpa using hq
 simp [results, h, hp', hq', asAddr, run_loadVar_row w g _ _ _ _ _ hg Tryz.underlying38 rfl (by rw [info_ans, List.size_toArray, hl])]
def zeroA : List Value := [.bool false, .slice none 0 0, .string ⟨#[]⟩, .slice none 0 0]
section
variable (s : SysP)
/-- What Solve answers. -/
def AnsP (B : Nat) (w : World) (v : Value) : Prop :=
 (∃ (q : Nat) (l : List Int) (d : Int), v = .agg #[.bool true, .slice (some ⟨q, 0, none⟩) s.cols.toNat (s.cols.toNat + 1), .string (intB d), .slice none 0 0] ∧ B ≤ q ∧ BlkB 9 q (strV (l.map intB ++ [intB d])) w ∧ (∀ z ∈ l, z.natAbs < L100) ∧ d.natAbs < L100 ∧ SolP s l d) ∨
 (∃ (q : Nat) (l : List Int), v = .agg #[.bool false, .slice none 0 0, .string ⟨#[]⟩, .slice (some ⟨q, 0, none⟩) s.rows.length s.rows.length] ∧ B ≤ q ∧ BlkB 9 q (strV (l.map intB)) w ∧ (∀ z ∈ l, z.natAbs < L100) ∧ RefP s l)
structure SolJ (W : World) (a : Option Addr) (ca : Nat) (i : Nat) (a' : Act) (w' : World) (G : Geo) : Prop where
 act : ∃ u5 u6 u7 u8 u9 u10 u11 u12 u13 u14 u15 u16 u17 u18 u19 u20 u21 u22 u23 u24 u25 u26 u27 u28 u29, a' = { tmps := #[.agg #[.int .i64 s.cols, .slice a s.rows.length ca], .pointer (some ⟨W.heap.size, 0, none⟩), .pointer (some ⟨W.heap.size + 1, 0, none⟩), .int .i64 0, .pointer (some ⟨G.T, 0, none⟩), u5, u6, u7, u8, u9, u10, u11, u12, u13, u14, u15, u16, u17, u18, u19, u20, u21, u22, u23, u24, u25, u26, u27, u28, u29], defers := [] }
 way : ∃ st, OnWay s i st ∧ TabM w' (W.heap.size + 2) s.rows.length s.cols.toNat (sysA s) st G
 box : BlkB 38 (W.heap.size + 1) zeroA w'
 below : Below W.heap.size W w'
set_option maxRecDepth 100000 in
set_option maxHeartbeats 8000000 in
theorem solve_c (a : Option Addr) (ca : Nat) (W : World) (hs : SysM W s a ca) (hv : ValidP s) (hn : s.rows.length ≤ 9) (hT : TabP W) (hTB : TabB W) :
  Calls Tryz.prog 14 #[.agg #[.int .i64 s.cols, .slice a s.rows.length ca]] W fun e w' => (∃ v, e = .returned (.tuple #[v, .int .i64 0]) ∧ AnsP s W.heap.size w' v) ∧ Below W.heap.size W w' := by
 have HV := Lib.hid hv
 have HN := Lib.hid hn
 have HT := Lib.hid hT
 have HTB := Lib.hid hTB
 have hb1 := alloc_belowL W (.cells #[.int .i64 s.cols, .slice a s.rows.length ca] 27)
 have hb2 := alloc_belowL (W.alloc (.cells #[.int .i64 s.cols, .slice a s.rows.length ca] 27)) (.cells zeroA.toArray 38)
 have g1 : BlkB 27 W.heap.size [.int .i64 s.cols, .slice a s.rows.length ca] (W.alloc (.cells #[.int .i64 s.cols, .slice a s.rows.length ca] 27)) := heap_alloc_new W _
 have g2 : BlkB 38 (W.heap.size + 1) zeroA ((W.alloc (.cells #[.int .i64 s.cols, .slice a s.rows.length ca] 27)).alloc (.cells zeroA.toArray 38)) := by
  have := heap_alloc_new (W.alloc (.cells #[.int .i64 s.cols, .slice a s.rows.length ca] 27)) (.cells zeroA.toArray 38)
  rw [alloc_sizeL] at this; exact this
 have hbb := belowVia hb2 hb1
 have hsz : ((W.alloc (.cells #[.int .i64 s.cols, .slice a s.rows.length ca] 27)).alloc (.cells zeroA.toArray 38)).heap.size = W.heap.size + 2 := by simp
 have hsm := hs.via hbb
 have hbx := g1.via hb2
 have k0 := hbx.cell (i := 0) rfl
 have k1 := hbx.cell (i := 1) rfl
 have HSV := Lib.hid (fun w h => valid_c s a ca w h)
 rw [valid_iff.2 hv] at HSV
 have HNT := Lib.hid (fun w h => newTable_c s a ca w h hv)
 have HBB := Lib.hid hbb
 have HSZ := Lib.hid hsz
 have HSM := Lib.hid hsm
 have HG2 := Lib.hid g2
 clear hv hn hT hTB hb1 hb2 g1 g2 hbb hsz hsm hbx hs
 go_enter Tryz.func14, Tryz.ntmps14
 go_upto_region 1 with fail
 change Code.wp _ _ _ _ ((W.alloc (.cells #[.int .i64 s.cols, .slice a s.rows.length ca] 27)).alloc (.cells zeroA.toArray 38))
 generalize (W.alloc (.cells #[.int .i64 s.cols, .slice a s.rows.length ca] 27)).alloc (.cells zeroA.toArray 38) = w0 at *
 refine wp_scope_index 0 (fun i a' w' => ∃ G, SolJ s W a ca i a' w' G) rfl ?_ ?_
 ·clear k0 k1 HSV HNT HBB HSZ HSM HG2
  clear w0
  rintro i a' wr ⟨G, ⟨⟨u5, u6, u7, u8, u9, u10, u11, u12, u13, u14, u15, u16, u17, u18, u19, u20, u21, u22, u23, u24, u25, u26, u27, u28, u29, rfl⟩, ⟨st, hw, hTM⟩, hbx, hB⟩⟩
  have hn18 : s.rows.length ≤ 18 := HV.out.rows
  have hcols : s.cols.toNat ≤ 64 := by have := HV.out.hi; omega
  have hS := hw.small HV.out HN.out
  have HS := Lib.hid hS
  have HW := Lib.hid hw
  have HTM := Lib.hid hTM
  have HBX := Lib.hid hbx
  have HB := Lib.hid hB
  have HH1 := Lib.hid hn18
  have HH2 := Lib.hid hcols
  have HSO := Lib.hid (solved_c wr hTM hS)
  clear hn18 hcols hS hw hTM hbx hB
  go_wp2_with fail
  refine HSO.out.mono ?_
  rintro e w1 ⟨rfl, hB1⟩
  have HTM1 := Lib.hid (HTM.out.via hB1)
  have HBX1 := Lib.hid (HBX.out.via hB1)
  have HB1 := Lib.hid (belowVia hB1 HB.out)
  clear hB1 HTM HBX HB HSO
  by_cases h0 : st.R s.rows.length s.rows.length = 0
  ·rw [decide_eq_true h0]
   have HZ := Lib.hid h0
   clear h0
   have HPT := Lib.hid (point_c w1 HTM1.out HW.out.good HS.out HH1.out HH2.out (TabP.via HB1.out HT.out))
   have hwl := HBX1.out.lt
   obtain ⟨l, d, x1, x2, x3, x4, x5⟩ := pt_ans HV.out HW.out.good HS.out HZ.out
   rw [x1, x2] at HPT
   have HX := Lib.hid (And.intro x3 (And.intro x4 x5))
   clear x1 x2 x3 x4 x5
   go_wp2_with fail
   refine HPT.out.mono ?_
   rintro e w2 ⟨⟨q, rfl, hq, hbl⟩, hB2⟩
   have hbx := HBX1.out.via hB2
   have HB2 := Lib.hid (belowVia hB2 HB1.out)
   have hWq : W.heap.size + 1 < q := Nat.lt_trans hwl hq
   have HQ := Lib.hid (Nat.le_of_lt (Nat.lt_of_succ_lt hWq))
   have p0 := hbx.cell (i := 0) rfl
   have p1 := hbx.cell (i := 1) rfl
   have p2 := hbx.cell (i := 2) rfl
   have p3 := hbx.cell (i := 3) rfl
   have f0 := hbx.froz 0
   have f1 := hbx.froz 1
   have f2 := hbx.froz 2
   have f3 := hbx.froz 3
   have HBXE := Lib.hid ((((hbx.set 0 (.bool true)).set 1 (.slice (some ⟨q, 0, none⟩) s.cols.toNat (s.cols.toNat + 1))).set 2 (.string (intB d))).set 3 (.slice none 0 0))
   have HBLE : Hid (BlkB 9 q (strV (l.map intB ++ [intB d])) ((((w2.setCell ⟨W.heap.size + 1, 0, none⟩ (.bool true)).setCell ⟨W.heap.size + 1, 1, none⟩ (.slice (some ⟨q, 0, none⟩) s.cols.toNat (s.cols.toNat + 1))).setCell ⟨W.heap.size + 1, 2, none⟩ (.string (intB d))).setCell ⟨W.heap.size + 1, 3, none⟩ (.slice none 0 0))) := Lib.hid ((heap_setCell_other _ _ _ _ (Nat.ne_of_gt hWq)).trans ((heap_setCell_other _ _ _ _ (Nat.ne_of_gt hWq)).trans ((heap_setCell_other _ _ _ _ (Nat.ne_of_gt hWq)).trans ((heap_setCell_other _ _ _ _ (Nat.ne_of_gt hWq)).trans hbl))))
   have hle : W.heap.size ≤ W.heap.size + 1 := Nat.le_succ _
   have HBE := Lib.hid ((((HB2.out.setCell (p := ⟨W.heap.size + 1, 0, none⟩) hle (.bool true)).setCell (p := ⟨W.heap.size + 1, 1, none⟩) hle (.slice (some ⟨q, 0, none⟩) s.cols.toNat (s.cols.toNat + 1))).setCell (p := ⟨W.heap.size + 1, 2, none⟩) hle (.string (intB d))).setCell (p := ⟨W.heap.size + 1, 3, none⟩) hle (.slice none 0 0))
   clear hbx hB2 hbl HB2 HB1 HBX1 HTM1 HPT hq hwl hWq hle
   go_wp2_with fail
   try simp only [Exit.jump]
   refine bodyPost_ret (results_ans rfl _ _ (W.heap.size + 1) [.bool true, .slice (some ⟨q, 0, none⟩) s.cols.toNat (s.cols.toNat + 1), .string (intB d), .slice none 0 0] (.int .i64 0) rfl rfl rfl HBXE.out) rfl ?_
   exact ⟨⟨_, rfl, .inl ⟨q, l, d, rfl, HQ.out, HBLE.out, HX.out.1, HX.out.2.1, HX.out.2.2⟩⟩, HBE.out⟩
  ·rw [decide_eq_false h0]
   have HZ := Lib.hid h0
   clear h0
   have HEN := Lib.hid (entering_c w1 HTM1.out HS.out (fun j _ i _ => (ValidP.bounds HV.out).1 j i) HH1.out HH2.out)
   go_wp2_with fail
   refine HEN.out.mono ?_
   rintro e w2 ⟨⟨q, ok, rfl, hE⟩, hB2⟩
   have HTM2 := Lib.hid (HTM1.out.via hB2)
   have HBX2 := Lib.hid (HBX1.out.via hB2)
   have HB2 := Lib.hid (belowVia hB2 HB1.out)
   have HE := Lib.hid hE
   clear hB2 HTM1 HBX1 HB1 HEN
   rcases hE with ⟨rfl, hg⟩ | ⟨rfl, q, rfl, hq, hgain, hbl⟩
   ·have HWT := Lib.hid (weights_c w2 HTM2.out HS.out HH1.out (TabP.via HB2.out HT.out))
    have hwl := HBX2.out.lt
    obtain ⟨l, x1, x3, x5⟩ := wt_ans HW.out.good HS.out HZ.out hg
    rw [x1] at HWT
    have HX := Lib.hid (And.intro x3 x5)
    clear x1 x3 x5 hg
    go_wp2_with fail
    refine HWT.out.mono ?_
    rintro e w3 ⟨⟨q, rfl, hq, hbl⟩, hB3⟩
    have hbx := HBX2.out.via hB3
    have HB3 := Lib.hid (belowVia hB3 HB2.out)
    have hWq : W.heap.size + 1 < q := Nat.lt_of_lt_of_le hwl hq
    have HQ := Lib.hid (Nat.le_of_lt (Nat.lt_of_succ_lt hWq))
    have p0 := hbx.cell (i := 0) rfl
    have p1 := hbx.cell (i := 1) rfl
    have p2 := hbx.cell (i := 2) rfl
    have p3 := hbx.cell (i := 3) rfl
    have f0 := hbx.froz 0
    have f1 := hbx.froz 1
    have f2 := hbx.froz 2
    have f3 := hbx.froz 3
    have HBXE := Lib.hid (((((hbx.set 0 (.bool false)).set 1 (.slice none 0 0)).set 2 (.string ⟨#[]⟩)).set 3 (.slice (some ⟨q, 0, none⟩) s.rows.length s.rows.length)))
    have HBLE : Hid (BlkB 9 q (strV (l.map intB)) ((((w3.setCell ⟨W.heap.size + 1, 0, none⟩ (.bool false)).setCell ⟨W.heap.size + 1, 1, none⟩ (.slice none 0 0)).setCell ⟨W.heap.size + 1, 2, none⟩ (.string ⟨#[]⟩)).setCell ⟨W.heap.size + 1, 3, none⟩ (.slice (some ⟨q, 0, none⟩) s.rows.length s.rows.length))) := Lib.hid ((heap_setCell_other _ _ _ _ (Nat.ne_of_gt hWq)).trans ((heap_setCell_other _ _ _ _ (Nat.ne_of_gt hWq)).trans ((heap_setCell_other _ _ _ _ (Nat.ne_of_gt hWq)).trans ((heap_setCell_other _ _ _ _ (Nat.ne_of_gt hWq)).trans hbl))))
    have hle : W.heap.size ≤ W.heap.size + 1 := Nat.le_succ _
    have HBE := Lib.hid (((((HB3.out.setCell (p := ⟨W.heap.size + 1, 0, none⟩) hle (.bool false)).setCell (p := ⟨W.heap.size + 1, 1, none⟩) hle (.slice none 0 0)).setCell (p := ⟨W.heap.size + 1, 2, none⟩) hle (.string ⟨#[]⟩)).setCell (p := ⟨W.heap.size + 1, 3, none⟩) hle (.slice (some ⟨q, 0, none⟩) s.rows.length s.rows.length)))
    clear hbx hB3 hbl HB3 HB2 HBX2 HTM2 HWT hq hwl hWq hle
    go_wp2_with fail
    try simp only [Exit.jump]
    refine bodyPost_ret (results_ans rfl _ _ (W.heap.size + 1) [.bool false, .slice none 0 0, .string ⟨#[]⟩, .slice (some ⟨q, 0, none⟩) s.rows.length s.rows.length] (.int .i64 0) rfl rfl rfl HBXE.out) rfl ?_
    exact ⟨⟨_, rfl, .inr ⟨q, l, rfl, HQ.out, HBLE.out, HX.out.1, HX.out.2⟩⟩, HBE.out⟩
   ·have hwl := HBX2.out.lt
    have htb := TabB.via HB2.out HTB.out
    have hsb := HTB.out.size
    have HEX := Lib.hid (exchange_c w2 HTM2.out HW.out.good HS.out (fun j _ i _ => (ValidP.bounds HV.out).1 j i) HH1.out HH2.out q hq hgain hbl htb (by omega) (by omega))
    clear hwl htb hsb hq hgain hbl
    go_wp2_with fail
    refine HEX.out.mono ?_
    rintro e w3 ⟨⟨rfl, st', o, hst, hTM⟩, hB3⟩
    have hbx : BlkB 38 (W.heap.size + 1) zeroA w3 := (hB3.block (W.heap.size + 1) (by omega)).trans HBX2.out
    have hB : Below W.heap.size W w3 := HB2.out.trans (hB3.mono (by omega))
    obtain ⟨j, hj, hon⟩ := HW.out.next hst
    have HF := Lib.hid (And.intro hj (And.intro hon (And.intro hTM (And.intro hbx hB))))
    clear hj hon hTM hbx hB hst hB3 HEX
    go_wp2_with fail
    go_step3
    exact ⟨rfl, j, HF.out.1, G, ⟨_, _, _, _, _, _, _, _, _, _, _, _, _, _, _, _, _, _, _, _, _, _, _, _, _, rfl⟩, ⟨st', HF.out.2.1, HF.out.2.2.1⟩, HF.out.2.2.2.1, HF.out.2.2.2.2⟩
 ·intro hpass
  have HP := Lib.hid hpass
  clear hpass
  go_wp2_with fail
  refine (HSV.out _ HSM.out).mono ?_
  rintro e w1 ⟨rfl, hB1⟩
  have k0 := keptBelow hB1 k0
  have k1 := keptBelow hB1 k1
  have hs1 := Lib.hid (HSM.out.via hB1)
  have hsz1 := hB1.size
  rw [HSZ.out] at hsz1
  have hg1 := Lib.hid (HG2.out.via hB1)
  have hB1 := Lib.hid (belowVia hB1 HBB.out)
  have HS1 := Lib.hid hsz1
  clear hsz1 HSM HBB HG2 HSV
  go_wp2_with fail
  refine (HNT.out _ hs1.out).mono ?_
  rintro e w2 ⟨⟨G, rfl, hTM⟩, hB2⟩
  have hg2 := hg1.out.via hB2
  have hB2 := belowVia hB2 hB1.out
  have HF := Lib.hid (And.intro hTM (And.intro hg2 hB2))
  clear hTM hg2 hB2
  go_wp2_with fail
  go_step3
  rename_i hk
  exact hk _ _ (HP.out _ _ _ ⟨G, ⟨_, _, _, _, _, _, _, _, _, _, _, _, _, _, _, _, _, _, _, _, _, _, _, _, _, rfl⟩, ⟨_, OnWay.start s, { HF.out.1 with bT := Nat.le_trans HS1.out HF.out.1.bT }⟩, HF.out.2.1, HF.out.2.2⟩)
end
end Go.Proofs.YtofmjkgaaphnkaaGreatDoor
/- LinBnd: The contracts of bounded and amount. -/
namespace Go.Proofs.YtofmjkgaaphnkaaGreatDoor
open Go.RowKit Putlog

theorem intB_toL (z : Int) : (intB z).data.toList = intT z := by simp [intB]
theorem bnd_form (t : ByteArray) : bnd t = (validT t.data.toList && decide ((Lib.trimPrefix t.data.toList [45]).length ≤ 100)) := by
 cases h : readI t with
 | none =>
  have : validT t.data.toList = false := by
   cases e : validT t.data.toList with
   | false => rfl
   | true =>
    unfold readI at h
    rw [if_pos e] at h; cases h
  rw [this]; unfold bnd; rw [h]; rfl
 | some z =>
  obtain ⟨rfl, hf⟩ := readI_some h
  unfold bnd; rw [h, intB_toL, (validT_int z).2 hf, (trimT z).1, Bool.true_and]
  show decide (z.natAbs < L100) = _
  have := natT_len z.natAbs 100 (by decide)
  unfold L100
  by_cases hb : z.natAbs < 10 ^ 100
  ·rw [decide_eq_true hb, decide_eq_true (this.2 hb)]
  ·rw [decide_eq_false hb, decide_eq_false (fun k => hb (this.1 k))]
theorem amt_form (t : ByteArray) : amt t = (bnd t && !Lib.hasPrefix t.data.toList [45]) := by
 unfold amt bnd
 cases h : readI t with
 | none => rfl
 | some z =>
  obtain ⟨rfl, hf⟩ := readI_some h
  dsimp only
  rw [intB_toL, (trimT z).2]
  congr 1
  by_cases h0 : z < 0
  ·rw [decide_eq_true h0, decide_eq_false (by omega)]; rfl
  ·rw [decide_eq_false h0, decide_eq_true (by omega)]; rfl
theorem isZL (z : Int) : ((intB z).toList == [48]) = decide (z = 0) := by
 by_cases h : z = 0
 ·subst h; decide +kernel
 ·rw [decide_eq_false h]
  exact isZero_no h
theorem posT_form (t : ByteArray) : posT t = (!(t.toList == [48]) && amt t) := by
 unfold posT amt
 cases h : readI t with
 | none => simp
 | some z =>
  obtain ⟨rfl, hf⟩ := readI_some h
  dsimp only
  rw [isZL]
  by_cases h0 : z = 0
  ·subst h0; decide
  ·rw [decide_eq_false h0]
   by_cases h1 : 0 < z
   ·rw [decide_eq_true h1, decide_eq_true (by omega : 0 ≤ z)]; simp
   ·rw [decide_eq_false h1, decide_eq_false (by omega : ¬ 0 ≤ z)]; simp
set_option maxRecDepth 100000 in
set_option maxHeartbeats 1000000 in
theorem bounded_c (t : ByteArray) (ht : Sized t) (W : World) : Calls Tryz.prog 62 #[.string t] W fun e w' => e = .returned (.bool (bnd t)) ∧ w' = W := by
 have HV := Lib.hid (fun w => valid_any t ht w)
 have HT := Lib.hid (fun w => Tryz.strings_TrimPrefix t ⟨#[45]⟩ w)
 obtain ⟨d, hd⟩ : ∃ d : ByteArray, d = ⟨(Lib.trimPrefix t.data.toList [45]).toArray⟩ := ⟨_, rfl⟩
 have hdl : (Lib.trimPrefix t.data.toList [45]).length = d.size := by rw [hd]; show _ = (Lib.trimPrefix t.data.toList [45]).toArray.size; simp
 rw [bnd_form, hdl]
 have e45 : (⟨#[45]⟩ : ByteArray).data.toList = [45] := rfl
 rw [e45, ← hd] at HT
 have hds : (d.size : Int) ≤ 9223372036854775807 := by
  have h3 : (Lib.trimPrefix t.data.toList [45]).length ≤ t.data.toList.length := by
   rw [trim_minus]; split
   ·simp
   ·exact Nat.le_refl _
  have h2 : t.size = t.data.toList.length := by rw [Array.length_toList]; rfl
  unfold Sized at ht
  omega
 clear hd hdl e45 ht
 cases hv : validT t.data.toList with
 | false =>
  rw [hv] at HV
  clear hv
  go_enter Tryz.func62, Tryz.ntmps62
  go_wp2_with fail
  refine (HV.out _).mono ?_
  rintro e w1 ⟨rfl, rfl⟩
  go_wp2_with fail
  go_ret
  exact ⟨rfl, rfl⟩
 | true =>
  rw [hv] at HV
  clear hv
  go_enter Tryz.func62, Tryz.ntmps62
  go_wp2_with fail
  refine (HV.out _).mono ?_
  rintro e w1 ⟨rfl, rfl⟩
  go_wp2_with fail
  refine (HT.out _).mono ?_
  rintro e w1 ⟨rfl, rfl⟩
  go_wp2_with fail
  go_ret
  refine ⟨?_, rfl⟩
  have e : decide ((d.size : Int) ≤ 100) = decide (d.size ≤ 100) := decide_eq_decide.2 (by omega)
  simp [e]
set_option maxRecDepth 100000 in
set_option maxHeartbeats 1000000 in
theorem amount_c (t : ByteArray) (ht : Sized t) (W : World) : Calls Tryz.prog 78 #[.string t] W fun e w' => e = .returned (.bool (amt t)) ∧ w' = W := by
 have HV := Lib.hid (fun w => bounded_c t ht w)
 have HT := Lib.hid (fun w => Tryz.strings_HasPrefix t ⟨#[45]⟩ w)
 have e45 : (⟨#[45]⟩ : ByteArray).data.toList = [45] := rfl
 rw [e45] at HT
 rw [amt_form]
 generalize Lib.hasPrefix t.data.toList [45] = y at *
 clear ht e45
 cases hv : bnd t with
 | false =>
  rw [hv] at HV
  clear hv
  go_enter Tryz.func78, Tryz.ntmps78
  go_wp2_with fail
  refine (HV.out _).mono ?_
  rintro e w1 ⟨rfl, rfl⟩
  go_wp2_with fail
  go_ret
  exact ⟨rfl, rfl⟩
 | true =>
  rw [hv] at HV
  clear hv
  go_enter Tryz.func78, Tryz.ntmps78
  go_wp2_with fail
  refine (HV.out _).mono ?_
  rintro e w1 ⟨rfl, rfl⟩
  go_wp2_with fail
  refine (HT.out _).mono ?_
  rintro e w1 ⟨rfl, rfl⟩
  go_wp2_with fail
  go_ret
  exact ⟨by simp, rfl⟩
end Go.Proofs.YtofmjkgaaphnkaaGreatDoor
/- LinFormed: The contracts of formed and alike. -/
namespace Go.Proofs.YtofmjkgaaphnkaaGreatDoor
open Go.RowKit Putlog

/-- A vector in memory. -/
structure VecM (w : World) (v : VecP) (a : Option Addr) (ca : Nat) : Prop where
 strs : StrsFrom w a v.nums
 len : v.nums.length ≤ ca
 cap : (ca : Int) ≤ 9223372036854775807
 den : Sized v.den
 sz : ∀ t ∈ v.nums, Sized t
theorem VecM.via {w w' : World} {v : VecP} {a : Option Addr} {ca : Nat} (h : VecM w v a ca) (hB : Below w.heap.size w w') : VecM w' v a ca := ⟨h.strs.via hB, h.len, h.cap, h.den, h.sz⟩
theorem formed_form (v : VecP) : formedV v = (decide (v.nums.length ≤ 64) && (!(v.den.toList == [48]) && (amt v.den && v.nums.all amt))) := by
 unfold formedV; rw [posT_form, Bool.and_assoc]
set_option maxRecDepth 100000 in
set_option maxHeartbeats 2000000 in
theorem formed_c (v : VecP) (a : Option Addr) (ca : Nat) (W : World) (hv : VecM W v a ca) :
  Calls Tryz.prog 45 #[.agg #[.slice a v.nums.length ca, .string v.den]] W fun e w' => e = .returned (.bool (formedV v)) ∧ Below W.heap.size W w' := by
 obtain ⟨n, hn⟩ : ∃ n, n = v.nums.length := ⟨_, rfl⟩
 have HN := Lib.hid hn
 have hca := hv.cap
 have hnc : (n : Int) ≤ ca := by have := hv.len; omega
 have hb1 := alloc_belowL W (.cells #[.slice a n ca, .string v.den] 30)
 have g1 : BlkB 30 W.heap.size [.slice a n ca, .string v.den] (W.alloc (.cells #[.slice a n ca, .string v.den] 30)) := heap_alloc_new W _
 have HB := Lib.hid hb1
 have HV := Lib.hid (hv.via hb1)
 have HSZ := Lib.hid hv.den
 have k0 := g1.cell (i := 0) rfl
 have k1 := g1.cell (i := 1) rfl
 rw [formed_form, ← hn]
 have HAM := Lib.hid (fun w => amount_c v.den hv.den w)
 clear hv hn hb1 g1
 by_cases h64 : n ≤ 64
 ·have h64' : (n : Int) ≤ 64 := by omega
  rw [decide_eq_true h64, Bool.true_and]
  clear h64
  cases hz : v.den.toList == [48] with
  | true =>
   generalize v.den = den at *
   go_enter Tryz.func45, Tryz.ntmps45
   go_wp2_with fail
   go_ret
   exact ⟨rfl, HB.out⟩
  | false =>
   cases ha : amt v.den with
   | false =>
    rw [ha] at HAM
    generalize v.den = den at *
    go_enter Tryz.func45, Tryz.ntmps45
    go_wp2_with fail
    refine (HAM.out _).mono ?_
    rintro e w1 ⟨rfl, rfl⟩
    go_wp2_with fail
    go_ret
    exact ⟨rfl, HB.out⟩
   | true =>
    rw [ha] at HAM
    generalize v.den = den at *
    obtain ⟨l, hl⟩ : ∃ l, l = v.nums := ⟨_, rfl⟩
    rw [← hl] at HN ⊢
    have HST : Hid (StrsFrom (W.alloc (.cells #[.slice a n ca, .string den] 30)) a l) := Lib.hid (by rw [hl]; exact HV.out.strs)
    have HS : Hid (∀ t ∈ l, Sized t) := Lib.hid (by rw [hl]; exact HV.out.sz)
    clear hl HV
    go_enter Tryz.func45, Tryz.ntmps45
    go_wp2_with fail
    refine (HAM.out _).mono ?_
    rintro e w1 ⟨rfl, rfl⟩
    go_wp2_with fail
    clear k0 k1 HAM hz ha
    generalize W.alloc (.cells #[.slice a n ca, .string den] 30) = w0 at *
    go_loopw [4, 23] (fun x i wr => ∃ k : Nat, k ≤ n ∧ i = .int .i64 k ∧ (l.take k).all amt = true ∧ wr = w0) (fun _ i _ => n - (intOf i).toNat)
    case atStart => exact ⟨0, Nat.zero_le _, rfl, rfl, rfl⟩
    case round =>
     obtain ⟨k, hk, rfl, hall, rfl⟩ := hrel
     by_cases hlt : k < n
     ·have hlt' : (k : Int) < n := by omega
      have hkl : k < l.length := by have := HN.out; omega
      obtain ⟨g, o, rfl, c0⟩ := HST.out.get hkl
      have HA := Lib.hid (fun w => amount_c l[k] (HS.out _ (List.getElem_mem hkl)) w)
      cases hp : amt l[k] with
      | true =>
       rw [hp] at HA
       have HT := Lib.hid (all_take hall hkl hp)
       clear hall hp
       generalize l[k] = t at *
       go_wp2_with fail
       refine (HA.out _).mono ?_
       rintro e w2 ⟨rfl, rfl⟩
       go_wp2_with fail
       go_roundw
       case rel => exact ⟨k + 1, by omega, by go_num, HT.out, by trivial⟩
       case measure => simp [intOf]; omega
      | false =>
       rw [hp] at HA
       have HT := Lib.hid (not_all hkl hp)
       clear hall hp
       generalize l[k] = t at *
       go_wp2_with fail
       refine (HA.out _).mono ?_
       rintro e w2 ⟨rfl, rfl⟩
       go_wp2_with fail
       go_ret
       exact ⟨by rw [HT.out]; rfl, HB.out⟩
     ·obtain rfl : k = n := by omega
      rw [List.take_of_length_le (by have := HN.out; omega)] at hall
      have HT := Lib.hid hall
      clear hall
      go_wp2_with fail
      go_ret
      exact ⟨by rw [HT.out]; rfl, HB.out⟩
 ·have h64' : (64 : Int) < n := by omega
  rw [decide_eq_false h64, Bool.false_and]
  clear h64
  generalize v.den = den at *
  go_enter Tryz.func45, Tryz.ntmps45
  go_wp2_with fail
  go_ret
  exact ⟨rfl, HB.out⟩
def alikeV (v u : VecP) : Bool := formedV v && (formedV u && decide (v.nums.length = u.nums.length))
set_option maxRecDepth 100000 in
set_option maxHeartbeats 2000000 in
theorem alike_c (v u : VecP) (a b : Option Addr) (ca cb : Nat) (W : World) (hv : VecM W v a ca) (hu : VecM W u b cb) :
  Calls Tryz.prog 51 #[.agg #[.slice a v.nums.length ca, .string v.den], .agg #[.slice b u.nums.length cb, .string u.den]] W fun e w' => e = .returned (.bool (alikeV v u)) ∧ Below W.heap.size W w' := by
 obtain ⟨n, hn⟩ : ∃ n, n = v.nums.length := ⟨_, rfl⟩
 obtain ⟨m, hm⟩ : ∃ m, m = u.nums.length := ⟨_, rfl⟩
 have hca := hv.cap
 have hcb := hu.cap
 have hnc : (n : Int) ≤ ca := by have := hv.len; omega
 have hmc : (m : Int) ≤ cb := by have := hu.len; omega
 have hb1 := alloc_belowL W (.cells #[.slice a n ca, .string v.den] 30)
 have hb2 := alloc_belowL (W.alloc (.cells #[.slice a n ca, .string v.den] 30)) (.cells #[.slice b m cb, .string u.den] 30)
 have g1 : BlkB 30 W.heap.size [.slice a n ca, .string v.den] (W.alloc (.cells #[.slice a n ca, .string v.den] 30)) := heap_alloc_new W _
 have g2 : BlkB 30 (W.heap.size + 1) [.slice b m cb, .string u.den] ((W.alloc (.cells #[.slice a n ca, .string v.den] 30)).alloc (.cells #[.slice b m cb, .string u.den] 30)) := by
  have := heap_alloc_new (W.alloc (.cells #[.slice a n ca, .string v.den] 30)) (.cells #[.slice b m cb, .string u.den] 30)
  rw [alloc_sizeL] at this; exact this
 have HB := Lib.hid (belowVia hb2 hb1)
 have g1' := g1.via hb2
 have k0 := g1'.cell (i := 0) rfl
 have k1 := g1'.cell (i := 1) rfl
 have k2 := g2.cell (i := 0) rfl
 have k3 := g2.cell (i := 1) rfl
 have HFV := Lib.hid (fun w h => formed_c v a ca w (hv.via h))
 have HFU := Lib.hid (fun w h => formed_c u b cb w (hu.via h))
 obtain ⟨res, hres⟩ : ∃ res, res = alikeV v u := ⟨_, rfl⟩
 rw [← hres]
 unfold alikeV at hres
 rw [← hn] at HFV
 rw [← hm] at HFU
 rw [← hn, ← hm] at hres ⊢
 have HR := Lib.hid hres
 clear hres
 clear hv hu hn hm hb1 hb2 g1 g1' g2
 go_enter Tryz.func51, Tryz.ntmps51
 go_upto_region 1 with fail
 generalize (W.alloc (.cells #[.slice a n ca, .string v.den] 30)).alloc (.cells #[.slice b m cb, .string u.den] 30) = w0 at *
 generalize v.den = vd at *
 generalize u.den = ud at *
 cases h1 : formedV v with
 | false =>
  rw [h1] at HFV
  go_wp2_with fail
  refine (HFV.out _ HB.out).mono ?_
  rintro e w1 ⟨rfl, hB1⟩
  have HB1 := Lib.hid (belowVia hB1 HB.out)
  clear hB1 k0 k1 k2 k3
  go_wp2_with fail
  go_ret
  exact ⟨by rw [HR.out, h1]; rfl, HB1.out⟩
 | true =>
  rw [h1] at HFV
  go_wp2_with fail
  refine (HFV.out _ HB.out).mono ?_
  rintro e w1 ⟨rfl, hB1⟩
  have HB1 := Lib.hid (belowVia hB1 HB.out)
  have k0 := keptBelow hB1 k0
  have k2 := keptBelow hB1 k2
  have k3 := keptBelow hB1 k3
  clear hB1 k1
  cases h2 : formedV u with
  | false =>
   rw [h2] at HFU
   go_wp2_with fail
   refine (HFU.out _ HB1.out).mono ?_
   rintro e w2 ⟨rfl, hB2⟩
   have HB2 := Lib.hid (belowVia hB2 HB1.out)
   clear hB2 k0 k2 k3
   go_wp2_with fail
   go_ret
   exact ⟨by rw [HR.out, h1, h2]; rfl, HB2.out⟩
  | true =>
   rw [h2] at HFU
   go_wp2_with fail
   refine (HFU.out _ HB1.out).mono ?_
   rintro e w2 ⟨rfl, hB2⟩
   have HB2 := Lib.hid (belowVia hB2 HB1.out)
   have k0 := keptBelow hB2 k0
   have k2 := keptBelow hB2 k2
   clear hB2 k3
   go_wp2_with fail
   go_ret
   refine ⟨?_, HB2.out⟩
   have e : ((n : Int) == m) = decide (n = m) := by
    by_cases h : n = m
    ·subst h; simp
    ·rw [decide_eq_false h]; simp; omega
   rw [HR.out, h1, h2, ← e]; rfl
end Go.Proofs.YtofmjkgaaphnkaaGreatDoor
/- RegionS: A region that draws its order, in which something stands behind every operation: what only reads it may be taken first. Of no program. -/
namespace Putlog
open Go

section
variable {P : Program} {ops : Array Oper} {Q : Exit → Act → World → Prop} {md : Region.Mode} {S : World → Prop}

/-- Whatever order is picked: S holds behind each operation. -/
def wpS (P : Program) (md : Region.Mode) (ops : Array Oper) (Q : Exit → Act → World → Prop) (S : World → Prop) : Nat → Array Bool → Act → World → Prop
 | 0, listed, a, w => Region.ready md ops listed = [] ∧ Q .normal a w
 | fuel + 1, listed, a, w =>
  (Region.ready md ops listed = [] → Q .normal a w) ∧
  ∀ i ∈ Region.ready md ops listed, wpOp P ops Q i (fun a' w' => S w' ∧ wpS P md ops Q S fuel (listed.setIfInBounds i true) a' w') a w
theorem wpAny_of_S : ∀ (fuel : Nat) (listed : Array Bool) (a : Act) (w : World), wpS P md ops Q S fuel listed a w → wpAny P md ops Q fuel listed a w
 | 0, _, _, _, h => h
 | fuel + 1, _, _, _, h => ⟨h.1, fun i hi => wpOp_mono (fun a' w' h' => wpAny_of_S fuel _ a' w' h'.2) (h.2 i hi)⟩
theorem wpS_first {i : Nat} {oi : Oper} {v : Value} (hi : ops[i]? = some oi)
  (hsel : ∀ (j : Nat) (o : Oper) cs b, ops[j]? = some o → o.op ≠ .select cs b) (hQ : ∀ c a w, Q (.panic c) (a.put oi.dst v) w → Q (.panic c) a w) :
  ∀ (fuel : Nat) (listed : Array Bool) (a : Act) (w : World),
   (∀ j oj, ops[j]? = some oj → j ≠ i → listed.getD j true = false → (∀ e ∈ oj.after, Region.binds md e = true → e.on ≠ i) → oi.apart ops oj = true) →
   i ∈ Region.ready md ops listed → YieldsIf P ops S oi v a → S w →
   wpS P md ops Q S fuel (listed.setIfInBounds i true) (a.put oi.dst v) w → wpS P md ops Q S (fuel + 1) listed a w := by
 intro fuel
 induction fuel with
 | zero =>
  intro listed a w _ hr hy hS H
  refine ⟨fun h => (by rw [h] at hr; cases hr), fun j hj => ?_⟩
  by_cases hji : j = i
  ·subst hji; exact hy.wpOp hi hS ⟨hS, H⟩
  ·have h := ready_mono hj hji
   rw [H.1] at h
   cases h
 | succ fuel ih =>
  intro listed a w hfree hr hy hS H
  refine ⟨fun h => (by rw [h] at hr; cases hr), fun j hj => ?_⟩
  by_cases hji : j = i
  ·subst hji; exact hy.wpOp hi hS ⟨hS, H⟩
  ·have hun := (mem_ready.1 hr).1
   obtain ⟨hjun, oj, hoj, hall⟩ := mem_ready.1 hj
   have hnot : ∀ e ∈ oj.after, Region.binds md e = true → e.on ≠ i := fun e he hb heq => by
    have h1 := hall e he hb
    rw [heq] at h1
    rcases Nat.lt_or_ge i listed.size with h' | h'
    ·simp [h'] at hun h1; rw [hun] at h1; cases h1
    ·simp [Array.getElem?_eq_none h'] at h1
   have h2 := wpOp_putIf hoj (hfree j oj hoj hji hjun hnot) (fun cs b => hsel i oi cs b hi) (fun cs b => hsel j oj cs b hoj) hQ hy (H.2 j (ready_mono hj hji))
   have hfree' : ∀ m om, ops[m]? = some om → m ≠ i → (listed.setIfInBounds j true).getD m true = false →
     (∀ e ∈ om.after, Region.binds md e = true → e.on ≠ i) → oi.apart ops om = true := fun m om hm hmi hu hno => by
    refine hfree m om hm hmi ?_ hno
    by_cases hjm : j = m
    ·subst hjm; exact hjun
    ·rw [getD_set_ne true hjm] at hu; exact hu
   refine wpOp_mono (fun a' w' h3 => ⟨h3.2.1, ih (listed.setIfInBounds j true) a' w' hfree' (ready_mono hr (Ne.symm hji)) h3.1 h3.2.1 ?_⟩) h2
   rw [Array.setIfInBounds_comm _ _ hji]
   exact h3.2.2
/-- The beginning. -/
theorem wp_region_S {id : Nat} {a : Act} {w : World} (S : World → Prop) (hm : P.follows .mixedOrders = true)
  (h : wpS P .any ops Q S ops.size (Array.replicate ops.size false) a w.drew) : (Code.region id ops true).wp P Q a w :=
 wp_region_any hm (wpAny_of_S _ _ _ _ h)
/-- Take number i first. -/
theorem wpS_take {i : Nat} {oi : Oper} {v : Value} {d : Option Tmp} {fuel : Nat} {listed : Array Bool} {a : Act} {w : World} (hi : ops[i]? = some oi)
  (hs : Region.noSelect ops = true) (hf : Region.free md ops listed i = true) (hr : (Region.ready md ops listed).contains i = true)
  (hd : oi.dst = d) (hQ : ∀ c a w, Q (.panic c) (a.put d v) w → Q (.panic c) a w) (hy : YieldsIf P ops S oi v a) (hS : S w)
  (h : wpS P md ops Q S fuel (listed.setIfInBounds i true) (a.put d v) w) : wpS P md ops Q S (fuel + 1) listed a w := by
 subst hd
 exact wpS_first hi (Region.noSelect_spec hs) hQ fuel listed a w (Region.free_spec hi hf) (by simpa using hr) hy hS h
/-- One operation alone may come up. -/
theorem wpS_one {i : Nat} {oi : Oper} {fuel : Nat} {listed : Array Bool} {a : Act} {w : World} (hr : Region.ready md ops listed = [i]) (hi : ops[i]? = some oi) (hg : oi.guard = none)
  (h : oi.wp P a w (fun a' w' => S w' ∧ wpS P md ops Q S fuel (listed.setIfInBounds i true) a' w') Q) : wpS P md ops Q S (fuel + 1) listed a w := by
 refine ⟨fun h0 => (by rw [hr] at h0; cases h0), fun j hj => ?_⟩
 rw [hr] at hj
 obtain rfl : j = i := by simpa using hj
 unfold wpOp
 simp only [hi]
 rw [if_pos (by simp [Region.wanted, hg])]
 exact .inl h
/-- The last operation yields a value. -/
theorem wpS_lastY {i : Nat} {oi : Oper} {fuel : Nat} {listed : Array Bool} {a : Act} {w : World} {v : Value} {d : Option Tmp} (hr : Region.ready md ops listed = [i]) (hi : ops[i]? = some oi) (hd : oi.dst = d)
  (hn : Region.ready md ops (listed.setIfInBounds i true) = []) (hy : YieldsIf P ops S oi v a) (hS : S w)
  (h : Q .normal (a.put d v) w) : wpS P md ops Q S (fuel + 1) listed a w := by
 subst hd
 refine ⟨fun h0 => (by rw [hr] at h0; cases h0), fun j hj => ?_⟩
 rw [hr] at hj
 obtain rfl : j = i := by simpa using hj
 refine hy.wpOp hi hS ⟨hS, ?_⟩
 cases fuel with
 | zero => exact ⟨hn, h⟩
 | succ _ => exact ⟨fun _ => h, by rw [hn]; simp⟩
/-- An append. -/
theorem wpS_append {i : Nat} {oi : Oper} {fuel : Nat} {listed : Array Bool} {a : Act} {w : World} {dt : Tmp} (hr : Region.ready md ops listed = [i]) (hi : ops[i]? = some oi) (hg : oi.guard = none) (hd : oi.dst = some dt)
  (s x : Operand) (t : TypeId) (ho : oi.op = .call { callee := .builtin .append, args := #[s, x], argTypes := #[t, t] })
  (base : Nat) (e : TypeId) (ti : TypeInfo) (z : Value) (size bytes : Nat) (ht : P.underlying t = some (.slice e)) (hti : P.info? e = some ti) (hz : ti.zero = some z)
  (hsize : ti.size = size) (hby : ti.bytes = bytes) (hzs : z.cells.size = size) (hsz : 0 < size)
  (v : Value) (n : Nat) (xs : List Value) (hs : a.eval s = v) (hown : w.ownsRow base e size v n xs)
  (ad : Addr) (m c : Nat) (news : List Value) (hx : a.eval x = .slice (some ad) m c) (hl : news.length = m * size) (hnews : ∀ j u, news[j]? = some u → w.cell? (ad.add j) = some u) (h1 : ∀ u ∈ news, u.oneCell' = true)
  (hm : 0 < m) (h63 : n + m ≤ maxLen) (hbytes : (n + m) * bytes ≤ 140737488355328) (hbase : base ≤ w.heap.size)
  (h : ∀ g cap w', w'.ownsRow base e size (.slice (some ⟨g, 0, none⟩) (n + m) cap) (n + m) (xs ++ news) → w.grownBy w' v.ownBlock → (v.ownBlock = some g ∨ g = w.heap.size) → g < w'.heap.size →
   S w' ∧ wpS P md ops Q S fuel (listed.setIfInBounds i true) (a.put (some dt) (.slice (some ⟨g, 0, none⟩) (n + m) cap)) w') : wpS P md ops Q S (fuel + 1) listed a w :=
 wpS_one hr hi hg (wp_append_lies w s x t ho base e ti z size bytes ht hti hz hsize hby hzs hsz v n xs hs hown ad m c news hx hl hnews h1 hm h63 hbytes hbase _ rfl (fun g cap w' h2 h3 h4 h5 => by rw [hd]; exact h g cap w' h2 h3 h4 h5))
end
end Putlog
/- LinEqual: The contract of Equal. -/
namespace Go.Proofs.YtofmjkgaaphnkaaGreatDoor
open Go.RowKit Putlog

def prodT (x y : ByteArray) : ByteArray := (op2 mulF x y).1
def eqAt (v u : VecP) (i : Nat) : Bool := (prodT (v.nums.getD i ByteArray.empty) u.den).toList == (prodT (u.nums.getD i ByteArray.empty) v.den).toList
def equalS (v u : VecP) : Bool := alikeV v u && (List.range v.nums.length).all (eqAt v u)
theorem range_all {p : Nat → Bool} {k : Nat} (h : (List.range k).all p = true) (hp : p k = true) : (List.range (k + 1)).all p = true := by
 rw [List.range_succ, List.all_append, h]; simp [hp]
theorem range_not {p : Nat → Bool} {k n : Nat} (hk : k < n) (hp : p k = false) : (List.range n).all p = false := by
 rw [List.all_eq_false]; exact ⟨k, List.mem_range.2 hk, by simp [hp]⟩
set_option maxRecDepth 100000 in
set_option maxHeartbeats 4000000 in
theorem equal_c (v u : VecP) (a b : Option Addr) (ca cb : Nat) (W : World) (hv : VecM W v a ca) (hu : VecM W u b cb) :
  Calls Tryz.prog 21 #[.agg #[.slice a v.nums.length ca, .string v.den], .agg #[.slice b u.nums.length cb, .string u.den]] W fun e w' => e = .returned (.bool (equalS v u)) ∧ Below W.heap.size W w' := by
 obtain ⟨n, hn⟩ : ∃ n, n = v.nums.length := ⟨_, rfl⟩
 obtain ⟨m, hm⟩ : ∃ m, m = u.nums.length := ⟨_, rfl⟩
 have HV := Lib.hid hv
 have HU := Lib.hid hu
 have hca := hv.cap
 have hcb := hu.cap
 have hnc : (n : Int) ≤ ca := by have := hv.len; omega
 have hmc : (m : Int) ≤ cb := by have := hu.len; omega
 have hb1 := alloc_belowL W (.cells #[.slice a n ca, .string v.den] 30)
 have hb2 := alloc_belowL (W.alloc (.cells #[.slice a n ca, .string v.den] 30)) (.cells #[.slice b m cb, .string u.den] 30)
 have g1 : BlkB 30 W.heap.size [.slice a n ca, .string v.den] (W.alloc (.cells #[.slice a n ca, .string v.den] 30)) := heap_alloc_new W _
 have g2 : BlkB 30 (W.heap.size + 1) [.slice b m cb, .string u.den] ((W.alloc (.cells #[.slice a n ca, .string v.den] 30)).alloc (.cells #[.slice b m cb, .string u.den] 30)) := by
  have := heap_alloc_new (W.alloc (.cells #[.slice a n ca, .string v.den] 30)) (.cells #[.slice b m cb, .string u.den] 30)
  rw [alloc_sizeL] at this; exact this
 have HB := Lib.hid (belowVia hb2 hb1)
 have g1' := g1.via hb2
 have k0 := g1'.cell (i := 0) rfl
 have k1 := g1'.cell (i := 1) rfl
 have k2 := g2.cell (i := 0) rfl
 have k3 := g2.cell (i := 1) rfl
 have HAL := Lib.hid (fun w h => alike_c v u a b ca cb w (hv.via h) (hu.via h))
 have HMU : Hid (∀ x y w, Sized x → Sized y → Calls Tryz.prog 52 #[.string x, .string y] w fun e w' => e = .returned (.string (prodT x y)) ∧ Below w.heap.size w w') := Lib.hid (fun x y w h1 h2 => product_c x y w h1 h2)
 obtain ⟨res, hres⟩ : ∃ res, res = equalS v u := ⟨_, rfl⟩
 rw [← hres]
 unfold equalS at hres
 rw [← hn, ← hm] at HAL
 rw [← hn] at hres ⊢
 rw [← hm]
 have HR := Lib.hid hres
 have HNN := Lib.hid hn
 have HMM := Lib.hid hm
 have HSV := Lib.hid (And.intro hv.den hu.den)
 clear hv hu hn hm hb1 hb2 g1 g1' g2 hres
 obtain ⟨vd, hvd⟩ : ∃ vd, vd = v.den := ⟨_, rfl⟩
 obtain ⟨ud, hud⟩ : ∃ ud, ud = u.den := ⟨_, rfl⟩
 rw [← hvd, ← hud] at k0 k1 k2 k3 HB HAL HSV ⊢
 have HVD := Lib.hid hvd
 have HUD := Lib.hid hud
 clear hvd hud
 go_enter Tryz.func21, Tryz.ntmps21
 go_upto_region 1 with fail
 generalize (W.alloc (.cells #[.slice a n ca, .string vd] 30)).alloc (.cells #[.slice b m cb, .string ud] 30) = w0 at *
 cases h1 : alikeV v u with
 | false =>
  rw [h1] at HAL
  go_wp2_with fail
  refine (HAL.out _ HB.out).mono ?_
  rintro e w1 ⟨rfl, hB1⟩
  have HB1 := Lib.hid (belowVia hB1 HB.out)
  clear hB1 k0 k1 k2 k3
  go_wp2_with fail
  go_ret
  exact ⟨by rw [HR.out, h1]; rfl, HB1.out⟩
 | true =>
  rw [h1] at HAL
  have hmn : m = n := by
   unfold alikeV at h1
   simp only [Bool.and_eq_true, decide_eq_true_eq] at h1
   have := h1.2.2; have := HNN.out; have := HMM.out; omega
  obtain rfl : n = m := hmn.symm
  go_wp2_with fail
  refine (HAL.out _ HB.out).mono ?_
  rintro e w1 ⟨rfl, hB1⟩
  have HB1 := Lib.hid (belowVia hB1 HB.out)
  have k0 := keptBelow hB1 k0
  have k1 := keptBelow hB1 k1
  have k2 := keptBelow hB1 k2
  have k3 := keptBelow hB1 k3
  clear hB1
  go_wp2_with fail
  have HK := Lib.hid (And.intro k0 (And.intro k1 (And.intro k2 k3)))
  clear k0 k1 k2 k3
  go_loopw [5, 13] (fun x i wr => ∃ k : Nat, k ≤ n ∧ i = .int .i64 k ∧ (List.range k).all (eqAt v u) = true ∧ (wr.cell? ⟨W.heap.size, 0, none⟩ = some (.slice a n ca) ∧ wr.cell? ⟨W.heap.size, 1, none⟩ = some (.string vd) ∧ wr.cell? ⟨W.heap.size + 1, 0, none⟩ = some (.slice b n cb) ∧ wr.cell? ⟨W.heap.size + 1, 1, none⟩ = some (.string ud)) ∧ Below W.heap.size W wr) (fun _ i _ => n - (intOf i).toNat)
  case atStart => exact ⟨0, Nat.zero_le _, rfl, rfl, HK.out, HB1.out⟩
  case round =>
  clear HK HB1
  obtain ⟨k, hk, rfl, hall, ⟨k0, k1, k2, k3⟩, hB⟩ := hrel
  have HALL := Lib.hid hall
  clear hall
  by_cases hlt : k < n
  ·have hlt' : (k : Int) < n := by omega
   have hkv : k < v.nums.length := by have := HNN.out; omega
   have hku : k < u.nums.length := by have := HMM.out; omega
   obtain ⟨ga, oa, rfl, e1⟩ := HV.out.strs.get hkv
   obtain ⟨gb, ob, rfl, e2⟩ := HU.out.strs.get hku
   have e1 := keptBelow hB e1
   have e2 := keptBelow hB e2
   have HP1 := Lib.hid (fun w => HMU.out v.nums[k] ud w (HV.out.sz _ (List.getElem_mem hkv)) HSV.out.2)
   have HP2 := Lib.hid (fun w => HMU.out u.nums[k] vd w (HU.out.sz _ (List.getElem_mem hku)) HSV.out.1)
   have HE : Hid (eqAt v u k = ((prodT v.nums[k] ud).toList == (prodT u.nums[k] vd).toList)) := Lib.hid (by
    unfold eqAt
    rw [List.getD_eq_getElem?_getD, List.getD_eq_getElem?_getD, List.getElem?_eq_getElem hkv, List.getElem?_eq_getElem hku, HVD.out, HUD.out]; rfl)
   have HT := Lib.hid (fun h => range_all (p := eqAt v u) HALL.out h)
   have HF := Lib.hid (fun h => range_not (p := eqAt v u) hlt h)
   generalize v.nums[k] = t1 at *
   generalize u.nums[k] = t2 at *
   clear hkv hku
   generalize prodT t1 ud = q1 at *
   generalize prodT t2 vd = q2 at *
   go_upto_region 6 with fail
   have k0 : wr.drew.cell? ⟨W.heap.size, 0, none⟩ = some (.slice (some ⟨ga, oa, none⟩) n ca) := k0
   have k1 : wr.drew.cell? ⟨W.heap.size, 1, none⟩ = some (.string vd) := k1
   have k2 : wr.drew.cell? ⟨W.heap.size + 1, 0, none⟩ = some (.slice (some ⟨gb, ob, none⟩) n cb) := k2
   have k3 : wr.drew.cell? ⟨W.heap.size + 1, 1, none⟩ = some (.string ud) := k3
   have e1 : wr.drew.cell? ⟨ga, oa + k, none⟩ = some (.string t1) := e1
   have e2 : wr.drew.cell? ⟨gb, ob + k, none⟩ = some (.string t2) := e2
   have hB := hB.drew
   refine wp_region_S (fun w' => w'.cell? ⟨W.heap.size, 0, none⟩ = some (.slice (some ⟨ga, oa, none⟩) n ca) ∧ w'.cell? ⟨W.heap.size, 1, none⟩ = some (.string vd) ∧ w'.cell? ⟨W.heap.size + 1, 0, none⟩ = some (.slice (some ⟨gb, ob, none⟩) n cb) ∧ w'.cell? ⟨W.heap.size + 1, 1, none⟩ = some (.string ud) ∧ w'.cell? ⟨ga, oa + k, none⟩ = some (.string t1) ∧ w'.cell? ⟨gb, ob + k, none⟩ = some (.string t2)) (by kernel_rfl) ?_
   generalize wr.drew = wd at *
   refine wpS_take (i := 0) (d := some 16) (v := ?_) rfl (by kernel_rfl) (by kernel_rfl) (by kernel_rfl) rfl (fun _ _ _ h => h) (.inl ⟨by rfl, fun w hw => ?_⟩) ⟨k0, k1, k2, k3, e1, e2⟩ ?_
   rotate_left
   ·clear hw; go_simp; with_reducible rfl
   try simp only [Act.put, tA, tB, tC]
   refine wpS_take (i := 1) (d := some 17) (v := ?_) rfl (by kernel_rfl) (by kernel_rfl) (by kernel_rfl) rfl (fun _ _ _ h => h) (.inl ⟨by rfl, fun w hw => ?_⟩) ⟨k0, k1, k2, k3, e1, e2⟩ ?_
   rotate_left
   ·(obtain ⟨_, _, _, _, _, _⟩ := hw); go_simp; with_reducible rfl
   try simp only [Act.put, tA, tB, tC]
   refine wpS_take (i := 2) (d := some 18) (v := ?_) rfl (by kernel_rfl) (by kernel_rfl) (by kernel_rfl) rfl (fun _ _ _ h => h) (.inl ⟨by rfl, fun w hw => ?_⟩) ⟨k0, k1, k2, k3, e1, e2⟩ ?_
   rotate_left
   ·clear hw; go_simp; with_reducible rfl
   try simp only [Act.put, tA, tB, tC]
   refine wpS_take (i := 3) (d := some 19) (v := ?_) rfl (by kernel_rfl) (by kernel_rfl) (by kernel_rfl) rfl (fun _ _ _ h => h) (.inl ⟨by rfl, fun w hw => ?_⟩) ⟨k0, k1, k2, k3, e1, e2⟩ ?_
   rotate_left
   ·(obtain ⟨_, _, _, _, _, _⟩ := hw); go_simp; with_reducible rfl
   try simp only [Act.put, tA, tB, tC]
   refine wpS_take (i := 4) (d := some 20) (v := ?_) rfl (by kernel_rfl) (by kernel_rfl) (by kernel_rfl) rfl (fun _ _ _ h => h) (.inl ⟨by rfl, fun w hw => ?_⟩) ⟨k0, k1, k2, k3, e1, e2⟩ ?_
   rotate_left
   ·(obtain ⟨_, _, _, _, _, _⟩ := hw); go_simp; with_reducible rfl
   try simp only [Act.put, tA, tB, tC]
   refine wpS_take (i := 5) (d := some 21) (v := ?_) rfl (by kernel_rfl) (by kernel_rfl) (by kernel_rfl) rfl (fun _ _ _ h => h) (.inl ⟨by rfl, fun w hw => ?_⟩) ⟨k0, k1, k2, k3, e1, e2⟩ ?_
   rotate_left
   ·clear hw; go_simp; with_reducible rfl
   try simp only [Act.put, tA, tB, tC]
   refine wpS_take (i := 6) (d := some 22) (v := ?_) rfl (by kernel_rfl) (by kernel_rfl) (by kernel_rfl) rfl (fun _ _ _ h => h) (.inl ⟨by rfl, fun w hw => ?_⟩) ⟨k0, k1, k2, k3, e1, e2⟩ ?_
   rotate_left
   ·(obtain ⟨_, _, _, _, _, _⟩ := hw); go_simp; with_reducible rfl
   try simp only [Act.put, tA, tB, tC]
   refine wpS_take (i := 8) (d := some 24) (v := ?_) rfl (by kernel_rfl) (by kernel_rfl) (by kernel_rfl) rfl (fun _ _ _ h => h) (.inl ⟨by rfl, fun w hw => ?_⟩) ⟨k0, k1, k2, k3, e1, e2⟩ ?_
   rotate_left
   ·clear hw; go_simp; with_reducible rfl
   try simp only [Act.put, tA, tB, tC]
   refine wpS_take (i := 9) (d := some 25) (v := ?_) rfl (by kernel_rfl) (by kernel_rfl) (by kernel_rfl) rfl (fun _ _ _ h => h) (.inl ⟨by rfl, fun w hw => ?_⟩) ⟨k0, k1, k2, k3, e1, e2⟩ ?_
   rotate_left
   ·(obtain ⟨_, _, _, _, _, _⟩ := hw); go_simp; with_reducible rfl
   try simp only [Act.put, tA, tB, tC]
   refine wpS_take (i := 10) (d := some 26) (v := ?_) rfl (by kernel_rfl) (by kernel_rfl) (by kernel_rfl) rfl (fun _ _ _ h => h) (.inl ⟨by rfl, fun w hw => ?_⟩) ⟨k0, k1, k2, k3, e1, e2⟩ ?_
   rotate_left
   ·clear hw; go_simp; with_reducible rfl
   try simp only [Act.put, tA, tB, tC]
   refine wpS_take (i := 11) (d := some 27) (v := ?_) rfl (by kernel_rfl) (by kernel_rfl) (by kernel_rfl) rfl (fun _ _ _ h => h) (.inl ⟨by rfl, fun w hw => ?_⟩) ⟨k0, k1, k2, k3, e1, e2⟩ ?_
   rotate_left
   ·(obtain ⟨_, _, _, _, _, _⟩ := hw); go_simp; with_reducible rfl
   try simp only [Act.put, tA, tB, tC]
   refine wpS_take (i := 12) (d := some 28) (v := ?_) rfl (by kernel_rfl) (by kernel_rfl) (by kernel_rfl) rfl (fun _ _ _ h => h) (.inl ⟨by rfl, fun w hw => ?_⟩) ⟨k0, k1, k2, k3, e1, e2⟩ ?_
   rotate_left
   ·(obtain ⟨_, _, _, _, _, _⟩ := hw); go_simp; with_reducible rfl
   try simp only [Act.put, tA, tB, tC]
   refine wpS_take (i := 13) (d := some 29) (v := ?_) rfl (by kernel_rfl) (by kernel_rfl) (by kernel_rfl) rfl (fun _ _ _ h => h) (.inl ⟨by rfl, fun w hw => ?_⟩) ⟨k0, k1, k2, k3, e1, e2⟩ ?_
   rotate_left
   ·clear hw; go_simp; with_reducible rfl
   try simp only [Act.put, tA, tB, tC]
   refine wpS_take (i := 14) (d := some 30) (v := ?_) rfl (by kernel_rfl) (by kernel_rfl) (by kernel_rfl) rfl (fun _ _ _ h => h) (.inl ⟨by rfl, fun w hw => ?_⟩) ⟨k0, k1, k2, k3, e1, e2⟩ ?_
   rotate_left
   ·(obtain ⟨_, _, _, _, _, _⟩ := hw); go_simp; with_reducible rfl
   try simp only [Act.put, tA, tB, tC]
   refine wpS_one (i := 7) (by kernel_rfl) rfl rfl ?_
   go_simp
   refine (HP1.out _).mono ?_
   rintro e w7 ⟨rfl, hBx⟩
   have k0 := keptBelow hBx k0
   have k1 := keptBelow hBx k1
   have k2 := keptBelow hBx k2
   have k3 := keptBelow hBx k3
   have e1 := keptBelow hBx e1
   have e2 := keptBelow hBx e2
   have hB := belowVia hBx hB
   clear hBx
   first | refine ⟨⟨k0, k1, k2, k3, e1, e2⟩, ?_⟩ | skip
   try simp only [Act.put, tA, tB, tC]
   refine wpS_one (i := 15) (by kernel_rfl) rfl rfl ?_
   go_simp
   refine (HP2.out _).mono ?_
   rintro e w8 ⟨rfl, hBx⟩
   have k0 := keptBelow hBx k0
   have k1 := keptBelow hBx k1
   have k2 := keptBelow hBx k2
   have k3 := keptBelow hBx k3
   have e1 := keptBelow hBx e1
   have e2 := keptBelow hBx e2
   have hB := belowVia hBx hB
   clear hBx
   first | refine ⟨⟨k0, k1, k2, k3, e1, e2⟩, ?_⟩ | skip
   try simp only [Act.put, tA, tB, tC]
   refine wpS_lastY (i := 16) (d := some 32) (v := ?_) (by kernel_rfl) rfl rfl (by kernel_rfl) (.inl ⟨by rfl, fun w hw => ?_⟩) ⟨k0, k1, k2, k3, e1, e2⟩ ?_
   rotate_left
   ·clear hw; go_simp; with_reducible rfl
   try simp only [Act.put, tA, tB, tC]
   have HK := Lib.hid (And.intro k0 (And.intro k1 (And.intro k2 k3)))
   have HB := Lib.hid hB
   clear k0 k1 k2 k3 e1 e2 hB
   cases hq : q1.toList == q2.toList with
   | true =>
    have HA := Lib.hid (HT.out (by rw [HE.out, hq]))
    clear HT HF HE HP1 HP2
    go_wp2_with fail
    go_roundw
    case rel => exact ⟨k + 1, by omega, by go_num, HA.out, HK.out, HB.out⟩
    case measure => simp [intOf]; omega
   | false =>
    have HA := Lib.hid (HF.out (by rw [HE.out, hq]))
    clear HT HF HE HP1 HP2
    go_wp2_with fail
    go_ret
    exact ⟨by rw [HR.out, h1, HA.out]; rfl, HB.out⟩
  ·obtain rfl : k = n := by omega
   have HB := Lib.hid hB
   clear k0 k1 k2 k3 hB
   go_wp2_with fail
   go_ret
   exact ⟨by rw [HR.out, h1, HALL.out]; rfl, HB.out⟩
end Go.Proofs.YtofmjkgaaphnkaaGreatDoor
/- LinEqP: Equal in numbers. -/
namespace Go.Proofs.YtofmjkgaaphnkaaGreatDoor
open Putlog

theorem toList_loopL (b : ByteArray) : ∀ (n i : Nat) (r : List UInt8), b.size - i = n → ByteArray.toList.loop b i r = r.reverse ++ b.data.toList.drop i
 | 0, i, r, h => by
  rw [ByteArray.toList.loop, if_neg (by omega), List.drop_eq_nil_of_le (by have : b.data.toList.length = b.size := rfl; omega), List.append_nil]
 | n + 1, i, r, h => by
  have hi : i < b.size := by omega
  rw [ByteArray.toList.loop, if_pos hi, toList_loopL b n (i + 1) _ (by omega), List.reverse_cons, List.append_assoc]
  have hi2 : i < b.data.toList.length := hi
  rw [List.drop_eq_getElem_cons hi2]
  have e : b.get! i = b.data.toList[i] := by
   show b.data[i]! = _
   rw [Array.getElem_toList]
   exact getElem!_pos b.data i hi
  rw [e]; rfl
theorem toList_dataL (b : ByteArray) : b.toList = b.data.toList := by
 rw [ByteArray.toList, toList_loopL b _ 0 [] rfl]; simp
theorem toList_eqL {a b : ByteArray} (h : a.toList = b.toList) : a = b := by
 rw [toList_dataL, toList_dataL] at h
 exact ByteArray.ext (Array.toList_inj.1 h)
theorem fits_mul {a b : Int} (ha : a.natAbs < L100) (hb : b.natAbs < L100) : Fits (a * b) := by
 unfold Fits
 rw [Int.natAbs_mul]
 have h1 : a.natAbs * b.natAbs < L100 * L100 := Nat.mul_lt_mul'' ha hb
 have h2 : L100 * L100 = 10 ^ 200 := by unfold L100; rw [← Nat.pow_add]
 omega
theorem prodT_ints {a b : Int} (ha : a.natAbs < L100) (hb : b.natAbs < L100) : prodT (intB a) (intB b) = intB (a * b) := by
 unfold prodT
 rw [op2_ints (fits_100 ha) (fits_100 hb)]
 show okS (a * b) = _
 exact okS_fits (fits_mul ha hb)
theorem getD_intB {l : List Int} {i : Nat} (h : i < l.length) : (l.map intB).getD i ByteArray.empty = intB (l.getD i 0) := by
 rw [List.getD_eq_getElem?_getD, List.getD_eq_getElem?_getD, List.getElem?_map, List.getElem?_eq_getElem h]; rfl
theorem getD_100 {l : List Int} (h : ∀ z ∈ l, z.natAbs < L100) (i : Nat) : (l.getD i 0).natAbs < L100 := by
 rw [List.getD_eq_getElem?_getD]
 cases e : l[i]? with
 | none => decide
 | some z => exact h z (List.mem_of_getElem? e)
theorem eqAt_ints {l k : List Int} {d e : Int} (hl : ∀ z ∈ l, z.natAbs < L100) (hk : ∀ z ∈ k, z.natAbs < L100) (hd : d.natAbs < L100) (he : e.natAbs < L100) {i : Nat} (h1 : i < l.length) (h2 : i < k.length) :
  eqAt ⟨l.map intB, intB d⟩ ⟨k.map intB, intB e⟩ i = decide (l.getD i 0 * e = k.getD i 0 * d) := by
 unfold eqAt
 dsimp only
 rw [getD_intB h1, getD_intB h2, prodT_ints (getD_100 hl i) he, prodT_ints (getD_100 hk i) hd]
 by_cases h : l.getD i 0 * e = k.getD i 0 * d
 ·rw [h]; simp
 ·rw [decide_eq_false h]
  simp only [beq_eq_false_iff_ne]
  exact fun h3 => h (intB_inj (toList_eqL h3))
theorem equal_ints {l k : List Int} {d e : Int} (hv : formedV ⟨l.map intB, intB d⟩ = true) (hu : formedV ⟨k.map intB, intB e⟩ = true) (hl : ∀ z ∈ l, z.natAbs < L100) (hk : ∀ z ∈ k, z.natAbs < L100) (hd : d.natAbs < L100) (he : e.natAbs < L100) :
  equalS ⟨l.map intB, intB d⟩ ⟨k.map intB, intB e⟩ = true ↔ l.length = k.length ∧ ∀ i, i < l.length → l.getD i 0 * e = k.getD i 0 * d := by
 unfold equalS alikeV
 rw [hv, hu]
 simp only [Bool.true_and, Bool.and_eq_true, decide_eq_true_eq, List.length_map, List.all_eq_true, List.mem_range]
 constructor
 ·rintro ⟨h1, h2⟩
  refine ⟨h1, fun i hi => ?_⟩
  have := h2 i hi
  rw [eqAt_ints hl hk hd he hi (by omega)] at this
  simpa using this
 ·rintro ⟨h1, h2⟩
  refine ⟨h1, fun i hi => ?_⟩
  rw [eqAt_ints hl hk hd he hi (by omega)]
  simpa using h2 i hi
/-- A formed vector, in numbers. -/
theorem formed_ints {l : List Int} {d : Int} (h0 : l.length ≤ 64) (hl : ∀ z ∈ l, z.natAbs < L100) (hn : ∀ z ∈ l, 0 ≤ z) (hd : d.natAbs < L100) (hp : 0 < d) : formedV ⟨l.map intB, intB d⟩ = true :=
 formed_iff.2 ⟨l, d, rfl, h0, fun z hz => ⟨hl z hz, hn z hz⟩, hd, hp⟩
end Go.Proofs.YtofmjkgaaphnkaaGreatDoor
