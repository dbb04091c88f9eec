/- The contract of PutInt. -/
import Derived.RangeFuncFrom
import Derived.Lib.Hide
import Derived.Laws.BytesArg
import Derived.Test.YtlnbipldbbdnmaaDoorWireGroups
namespace Go.Proofs.YtlnbipldbbdnmaaDoor
open Go.RowKit Go.Shelf Putlog
attribute [local go_sem] Oper.semAt_some

set_option maxHeartbeats 400000 in
theorem groups_any (z : Int) (w : World) :
    Calls Tryd.prog 23 #[.int .u64 z] w fun e w' => e = .returned (.func (.func 28) #[] #[.pointer (some ⟨w.heap.size, 0, none⟩)]) ∧ w' = w.alloc (.cells #[.int .u64 z] 50) := by
  go_enter Tryd.func23, Tryd.ntmps23
  go_wp2
  go_ret
  exact ⟨rfl, rfl⟩

theorem cell_new_l (W : World) (v : Value) (t : TypeId) : (W.alloc (.cells #[v] t)).cell? ⟨W.heap.size, 0, none⟩ = some v ∧ (W.alloc (.cells #[v] t)).frozen? ⟨W.heap.size, 0, none⟩ = false := ⟨by rw [World.cell?_alloc_new]; rfl, World.frozen?_alloc_new ..⟩
theorem cell_alloc_l {W : World} {a : Addr} {v : Value} (o : Obj) (h : W.cell? a = some v) : (W.alloc o).cell? a = some v := cell_kept h (World.grownBy_alloc W o none) (fun r e => by cases e)
theorem frozen_alloc_l {W : World} {a : Addr} {v : Value} (o : Obj) (h : W.cell? a = some v) (hf : W.frozen? a = false) : (W.alloc o).frozen? a = false := (frozen_kept h (World.grownBy_alloc W o none) (fun r e => by cases e)).trans hf
/-- What the nine cells hold after the bytes pre. -/
def Nine (b : Nat) (pre : List Int) (W : World) : Prop := ∀ i, i < 9 → W.cell? ⟨b, 0 + i, none⟩ = some (.int .u8 (pre.getD i 0)) ∧ W.frozen? ⟨b, 0 + i, none⟩ = false

theorem Nine.alloc {b : Nat} {pre : List Int} {W : World} (h : Nine b pre W) (o : Obj) : Nine b pre (W.alloc o) :=
  fun i hi => ⟨cell_alloc_l _ (h i hi).1, frozen_alloc_l _ (h i hi).1 (h i hi).2⟩
theorem nine_new (w : World) (t : TypeId) : Nine w.heap.size [] (w.alloc (.cells #[.int .u8 0, .int .u8 0, .int .u8 0, .int .u8 0, .int .u8 0, .int .u8 0, .int .u8 0, .int .u8 0, .int .u8 0] t)) := by
  intro i hi
  refine ⟨?_, World.frozen?_alloc_new ..⟩
  rw [World.cell?_alloc_new]
  match i, hi with
  | 0, _ | 1, _ | 2, _ | 3, _ | 4, _ | 5, _ | 6, _ | 7, _ | 8, _ => rfl

theorem getD_snoc (pre : List Int) (x : Int) (i : Nat) : (pre ++ [x]).getD i 0 = if i = pre.length then x else pre.getD i 0 := by
  simp only [List.getD_eq_getElem?_getD, List.getElem?_append]
  split
  · rw [if_neg (by omega)]
  · split
    · subst i; simp
    · rw [List.getElem?_eq_none (l := [x]) (by simp; omega), List.getElem?_eq_none (l := pre) (by omega)]
theorem Nine.snoc {b : Nat} {pre : List Int} {W : World} (h : Nine b pre W) (x : Int) (_ : pre.length < 9) : Nine b (pre ++ [x]) (W.setCell ⟨b, pre.length, none⟩ (.int .u8 x)) := by
  intro i hi
  refine ⟨?_, by rw [World.frozen?_setCell]; exact (h i hi).2⟩
  rw [getD_snoc]
  by_cases e : i = pre.length
  · subst e
    rw [if_pos rfl, Nat.zero_add]
    have := (h _ hi).1
    rw [Nat.zero_add] at this
    exact World.cell?_setCell_same' _ _ _ (by rw [this]; rfl)
  · rw [if_neg e, World.cell?_setCell_other _ _ _ _ (fun h => e (by have := congrArg Addr.off h; simp at this; exact this.symm))]
    exact (h i hi).1
theorem Nine.far {b : Nat} {pre : List Int} {W : World} (h : Nine b pre W) (b' o : Nat) (v : Value) (hb : b' ≠ b) : Nine b pre (W.setCell ⟨b', o, none⟩ v) :=
  fun i hi => ⟨by rw [World.cell?_setCell_other _ _ _ _ (fun h => hb (congrArg Addr.block h))]; exact (h i hi).1, by rw [World.frozen?_setCell]; exact (h i hi).2⟩

set_option maxRecDepth 100000 in
set_option maxHeartbeats 2000000 in
theorem PutInt_in (c : Int) (w : World) (hc1 : -4611686018427387903 ≤ c) (hc2 : c ≤ 4611686018427387903) :
    CallsIn Fence.wide 5 Tryd.prog 12 #[.int .i64 c] w fun e W' => e = .returned (.tuple #[.string (strOfNums (lebI (zig c))), .int .i64 0]) ∧ Below w.heap.size w W' := by
  have hd1 : decide (c < -4611686018427387903) = false := by simpa using hc1
  have hd2 : decide (4611686018427387903 < c) = false := by simpa using hc2
  refine callsIn_of_wp_marks Tryd.func12 rfl trivial ?_ rfl
  simp only [Tryd.ntmps12, List.size_toArray, List.length_cons, List.length_nil, Nat.reduceAdd, Nat.reduceSub, Array.replicate_succ, Array.replicate_zero, List.push_toArray, List.append_toArray, List.nil_append, List.cons_append]
  gi_wp2_with fail
  refine ⟨trivial, ?_⟩
  refine (callsIn_wide.2 (fold_any c _ hc1 hc2)).mono ?_
  rintro e w1 ⟨rfl, rfl⟩
  gi_wp2_with fail
  refine ⟨trivial, ?_⟩
  refine (callsIn_wide.2 (groups_any _ _)).mono ?_
  rintro e w1 ⟨rfl, rfl⟩
  gi_wp2_with fail
  obtain ⟨w0, hw0⟩ : ∃ w0 : World, w0 = (((w.alloc (.cells #[.int .u8 0, .int .u8 0, .int .u8 0, .int .u8 0, .int .u8 0, .int .u8 0, .int .u8 0, .int .u8 0, .int .u8 0] 46)).alloc (.cells #[.int .i64 0] 3)).alloc (.cells #[.int .u64 ↑(zig c)] 50)) := ⟨_, rfl⟩
  have hsz : w0.heap.size = w.heap.size + 1 + 1 + 1 := by rw [hw0, World.size_alloc, World.size_alloc, World.size_alloc]
  have hz : w0.cell? ⟨w.heap.size + 1 + 1, 0, none⟩ = some (.int .u64 ↑(zig c)) := by
    have := cell_new_l ((w.alloc (.cells #[.int .u8 0, .int .u8 0, .int .u8 0, .int .u8 0, .int .u8 0, .int .u8 0, .int .u8 0, .int .u8 0, .int .u8 0] 46)).alloc (.cells #[.int .i64 0] 3)) (.int .u64 ↑(zig c)) 50
    rw [World.size_alloc, World.size_alloc] at this
    rw [hw0]
    exact this.1
  have h90 : Nine w.heap.size [] w0 := by rw [hw0]; exact ((nine_new w _).alloc _).alloc _
  have hk0 : w0.cell? ⟨w.heap.size + 1, 0, none⟩ = some (.int .i64 0) ∧ w0.frozen? ⟨w.heap.size + 1, 0, none⟩ = false := by
    rw [hw0]
    have := cell_new_l (w.alloc (.cells #[.int .u8 0, .int .u8 0, .int .u8 0, .int .u8 0, .int .u8 0, .int .u8 0, .int .u8 0, .int .u8 0, .int .u8 0] 46)) (.int .i64 0) 3
    rw [World.size_alloc] at this
    exact ⟨cell_alloc_l _ this.1, frozen_alloc_l _ this.1 this.2⟩
  have hB0 : Below w.heap.size w w0 := by rw [hw0]; exact ((((Below.refl _ w).alloc (Nat.le_refl _) _).alloc (by simp) _).alloc (by rw [World.size_alloc, World.size_alloc]; omega) _)
  rw [← hw0]
  refine wpIn_rangeFunc_ownF rfl (by omega) (gf := 28) (lb := #[.pointer (some ⟨w.heap.size + 1 + 1, 0, none⟩)]) rfl trivial (enters_of Tryd.func28 (by kernel_rfl) rfl)
    (groups1_stops Fence.wide 4 trivial rfl (by omega) (w.heap.size + 1 + 1) (zig c) (zig_lt hc1 hc2) w0 (by omega) hz) walksK_t walksK_b (Below.refl _ _) (fun _ => rfl)
    (fun pre W => (Nine w.heap.size pre W ∧ W.cell? ⟨w.heap.size + 1, 0, none⟩ = some (.int .i64 pre.length) ∧ W.frozen? ⟨w.heap.size + 1, 0, none⟩ = false) ∧ Below w.heap.size w W)
    (fun _ _ _ => False)
    (OwnFrom.and (Own.from (fun s A B row hs hg hr => ⟨fun i hi => ⟨cell_kept (hs.1 i hi).1 hg hr, (frozen_kept (hs.1 i hi).1 hg hr).trans (hs.1 i hi).2⟩, cell_kept hs.2.1 hg hr, (frozen_kept hs.2.1 hg hr).trans hs.2.2⟩) _) (ownFrom_below (Nat.le_refl _) (by omega)))
    (fun _ _ _ _ _ hs _ _ => hs)
    ⟨⟨h90, hk0⟩, hB0⟩
    (fun x => { tmps := #[.int .i64 c, undef, .string { data := #[] }, .int .i64 0, .pointer (some ⟨w.heap.size, 0, none⟩), .pointer (some ⟨w.heap.size + 1, 0, none⟩), .int .u8 x, .int .i64 c, .bool false, .bool false, .int .i64 c, .bool false, .bool false, .int .i64 c,
      .int .u64 ↑(zig c), .func (.func 28) #[] #[.pointer (some ⟨w.heap.size + 1 + 1, 0, none⟩)], .int .u8 x, undef, undef, undef, undef, undef, undef, undef, undef], defers := [] }) ?assign ?body ?done ?stop
  case assign =>
    intro l x W K hK
    gi_wp2
    exact hK
  case body =>
    rintro l pre x W ⟨⟨h9, hk, hkf⟩, hB⟩ hlt
    have hx1 : W.cell? ⟨w.heap.size, pre.length, none⟩ = some (.int .u8 0) := by
      have := (h9 pre.length hlt).1
      rw [Nat.zero_add] at this
      rw [this]; simp
    have hx2 : W.frozen? ⟨w.heap.size, pre.length, none⟩ = false := by
      have := (h9 pre.length hlt).2
      rwa [Nat.zero_add] at this
    have hl9 : (pre.length : Int) < 9 := by omega
    clear hw0 hz h90 hk0 hB0
    gi_wp2
    refine ⟨(KeepsOthers.setCell _ _ _).trans (KeepsOthers.setCell _ _ _), ((KeepsOthers.setCell _ _ _).trans (KeepsOthers.setCell _ _ _)).walks,
      ⟨(h9.snoc x hlt).far _ _ _ (by omega), ?_, by rw [World.frozen?_setCell, World.frozen?_setCell]; exact hkf⟩,
      (hB.setCell (p := ⟨w.heap.size, pre.length, none⟩) (Nat.le_refl _) _).setCell (p := ⟨w.heap.size + 1, 0, none⟩) (by simp) _⟩
    rw [World.cell?_setCell_same' _ _ _ (by rw [World.cell?_setCell_other _ _ _ _ (by simp), hk]; rfl)]
    simp
  case done =>
    rintro D ys W hD rfl ⟨⟨h9, hk, hkf⟩, hB⟩ hK
    have hl9 := leb_len_le 8 (zig c) (by have := zig_lt hc1 hc2; omega)
    rw [← lebI_len] at hl9
    have hl : ((lebI (zig c)).length : Int) ≤ 9 := by omega
    have hconv := run_convert_bytes_arg (P := Tryd.prog) W 38 5 Tryd.underlying38 Tryd.underlying5 w.heap.size 0 (lebI (zig c)).length 9 (lebI (zig c)) rfl (fun i hi => (h9 i (by omega)).1) 9 Tryd.underlying9
    clear hw0 hz h90 hk0 hB0 hl9
    gi_wp2
    refine ⟨by simp, .inl ⟨_, _, rfl, run_takeDeferred hK, ?_⟩⟩
    exact ⟨_, results_tmp2 rfl _ _ _, rfl, hB.trans (belowK_b (w := w) (Nat.le_refl _) W D _ _ (by omega) hK rfl rfl)⟩
  case stop =>
    rintro D c pre W _ _ h _
    exact h.elim
theorem strOfNums_lebI (z : Nat) : strOfNums (lebI z) = ⟨(leb z).toArray⟩ := by
  unfold strOfNums
  rw [lebI_eq, List.map_map]
  congr 2
  conv => rhs; rw [← List.map_id (leb z)]
  apply List.map_congr_left
  intro x _
  simp

/-- PutInt, within its range: the encoding. -/
theorem PutInt_ok (c : Int) (w : World) (hc1 : -4611686018427387903 ≤ c) (hc2 : c ≤ 4611686018427387903) :
    Calls Tryd.prog 12 #[.int .i64 c] w fun e W' => e = .returned (.tuple #[.string ⟨(enc c).toArray⟩, .int .i64 0]) ∧ Below w.heap.size w W' := by
  have := callsIn_wide.1 (PutInt_in c w hc1 hc2)
  rw [strOfNums_lebI] at this
  exact this
set_option maxHeartbeats 400000 in
/-- PutInt, out of its range. -/
theorem PutInt_no (c : Int) (w : World) (h : c < -4611686018427387903 ∨ 4611686018427387903 < c) :
    Calls Tryd.prog 12 #[.int .i64 c] w fun e w' => e = .returned (.tuple #[.string ⟨#[]⟩, .int .i64 10]) ∧ w = w' := by
  rcases h with h | h
  · go_enter Tryd.func12, Tryd.ntmps12
    go_wp2
    go_ret2
    exact ⟨rfl, rfl⟩
  · go_enter Tryd.func12, Tryd.ntmps12
    go_wp2
    go_ret2
    exact ⟨rfl, rfl⟩
end Go.Proofs.YtlnbipldbbdnmaaDoor
