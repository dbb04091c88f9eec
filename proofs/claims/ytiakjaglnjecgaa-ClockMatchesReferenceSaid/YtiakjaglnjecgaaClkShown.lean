/- The contracts of narrow, bound and shown. -/
import Derived.Test.YtiakjaglnjecgaaClkValid
namespace Go.Proofs.Ytiakjaglnjecgaa
open Go.RowKit Putlog

/-- Everything but one block stays. -/
structure Wrote (p : Nat) (w w' : World) : Prop where
  os : w'.os = w.os
  tape : w'.tape = w.tape
  output : w'.output = w.output
  size : w.heap.size ≤ w'.heap.size
  block : ∀ k, k < w.heap.size → k ≠ p → w'.heap[k]? = w.heap[k]?
theorem Wrote.refl (p : Nat) (w : World) : Wrote p w w := ⟨rfl, rfl, rfl, Nat.le_refl _, fun _ _ _ => rfl⟩
theorem Wrote.trans {p : Nat} {a b c : World} (h : Wrote p a b) (k : Wrote p b c) : Wrote p a c :=
  ⟨k.os.trans h.os, k.tape.trans h.tape, k.output.trans h.output, Nat.le_trans h.size k.size, fun i hi hn => (k.block i (Nat.lt_of_lt_of_le hi h.size) hn).trans (h.block i hi hn)⟩
theorem Wrote.of_below {p : Nat} {a b : World} (h : Below a.heap.size a b) : Wrote p a b := ⟨h.os, h.tape, h.output, h.size, fun k hk _ => h.block k hk⟩
theorem Wrote.below {p B : Nat} {w a b : World} (h : Wrote p a b) (hb : Below B w a) (hs : B ≤ a.heap.size) (hp : B ≤ p) : Below B w b :=
  ⟨h.os.trans hb.os, h.tape.trans hb.tape, h.output.trans hb.output, Nat.le_trans hb.size h.size, fun k hk => (h.block k (Nat.lt_of_lt_of_le hk hs) (by omega)).trans (hb.block k hk)⟩
theorem Wrote.cell {p : Nat} {a b : World} (h : Wrote p a b) {q i : Nat} {v : Value} (hc : a.cell? ⟨q, i, none⟩ = some v) (hn : q ≠ p) : b.cell? ⟨q, i, none⟩ = some v := by
  have := h.block q (lt_of_cell hc) hn
  rw [← hc]; simp only [World.cell?, this]
theorem Wrote.heap {p : Nat} {a b : World} (h : Wrote p a b) {q : Nat} {o : Obj} (hc : a.heap[q]? = some o) (hn : q ≠ p) : b.heap[q]? = some o := (h.block q (Array.getElem?_eq_some_iff.1 hc).1 hn).trans hc
theorem Wrote.set {p : Nat} {a b : World} (h : Wrote p a b) (i : Nat) (v : Value) : Wrote p a (b.setCell ⟨p, i, none⟩ v) :=
  ⟨h.os, h.tape, h.output, by rw [World.size_setCell]; exact h.size, fun k hk hn => (heap_setCell_other b ⟨p, i, none⟩ k v hn).trans (h.block k hk hn)⟩
theorem Wrote.drew {p : Nat} {a b : World} (h : Wrote p a b) : Wrote p a b.drew := ⟨h.os, h.tape, h.output, h.size, h.block⟩
theorem pair_set {w : World} {p : Nat} {x y : Value} {t : TypeId} (h : w.heap[p]? = some (.cells #[x, y] t (0, 0))) (a b : Value) : ((w.setCell ⟨p, 0, none⟩ a).setCell ⟨p, 1, none⟩ b).heap[p]? = some (.cells #[a, b] t (0, 0)) :=
  heap_setCell_same _ _ 1 _ _ b (heap_setCell_same w _ 0 _ _ a h)
theorem pair_set' {w : World} {p : Nat} {x y : Value} {t : TypeId} (h : w.heap[p]? = some (.cells #[x, y] t (0, 0))) (a b : Value) : ((w.setCell ⟨p, 1, none⟩ b).setCell ⟨p, 0, none⟩ a).heap[p]? = some (.cells #[a, b] t (0, 0)) :=
  heap_setCell_same _ _ 0 _ _ a (heap_setCell_same w _ 1 _ _ b h)

set_option maxRecDepth 100000 in
set_option maxHeartbeats 2000000 in
theorem narrow_any (p : Nat) (f g a b : Int) (w : World) (h : w.heap[p]? = some (.cells #[.int .i64 f, .int .i64 g] 58 (0, 0))) :
    Calls Try.prog 38 #[.pointer (some ⟨p, 0, none⟩), .int .i64 a, .int .i64 b] w fun e w' => e = .returned (.tuple #[]) ∧ w'.heap[p]? = some (.cells #[.int .i64 (max f a), .int .i64 (min g b)] 58 (0, 0)) ∧ Wrote p w w' := by
  have c0 := (cell_of_row w p 0 _ _ _ h).trans (by rfl : _ = some (.int .i64 f))
  have c1 := (cell_of_row w p 1 _ _ _ h).trans (by rfl : _ = some (.int .i64 g))
  have f0 := frozen_of_row w p 0 _ _ h
  have f1 := frozen_of_row w p 1 _ _ h
  have H := Lib.hid h
  clear h
  go_enter Try.func38, Try.ntmps38
  go_wp2_with fail
  go_region
  go_wp2_with fail
  all_goals
    go_end0
    have hx := pair_set H.out (.int .i64 (max f a)) (.int .i64 (min g b))
    refine ⟨rfl, ?_, (((Wrote.refl p w).set 0 _).set 1 _).drew⟩
    first
      | (rw [show max f a = a by omega, show min g b = b by omega] at hx ⊢; exact hx)
      | (rw [show max f a = a by omega, show min g b = g by omega] at hx ⊢; exact hx)
      | (rw [show max f a = f by omega, show min g b = b by omega] at hx ⊢; exact hx)
      | (rw [show max f a = f by omega, show min g b = g by omega] at hx ⊢; exact hx)

set_option maxRecDepth 100000 in
set_option maxHeartbeats 2000000 in
theorem bound_any (p : Nat) (f g : Int) (x y z d l : Int) (w : World) (h : w.heap[p]? = some (.cells #[.int .i64 f, .int .i64 g] 58 (0, 0))) (h0 : 0 ≤ d) (h1 : d ≤ 100) (hl0 : 0 ≤ l) (hl1 : l ≤ 10000000) (hx0 : 0 ≤ x) (hx1 : x ≤ 10000000) (hy0 : 0 ≤ y) (hy1 : y ≤ 10000000) (hz0 : 0 ≤ z) (hz1 : z ≤ 10000000) :
    Calls Try.prog 37 #[.agg #[.int .i64 x, .int .i64 y, .int .i64 z], .int .i64 d, .int .i64 l, .func (.func 38) #[.pointer (some ⟨p, 0, none⟩)] #[]] w fun e w' => e = .returned (.tuple #[]) ∧ w'.heap[p]? = some (.cells #[.int .i64 (max f (bndF d l (x, y, z))), .int .i64 (min g (bndG d l (x, y, z)))] 58 (0, 0)) ∧ Wrote p w w' := by
  rcases Int.lt_trichotomy x l with hx | hx | hx
  · have hm : max (l - x) (x - l) = l - x := by omega
    have hn0 : 0 ≤ l - x := by omega
    have hn1 : l - x ≤ 10000000 := by omega
    have HS := Lib.hid (fun w => spread_ok d (l - x) w h0 h1 hn0 hn1)
    have e1 := loS_nonneg h0 hn0
    have e2 := hiS_nonneg h1 hn0
    have e3 : hiS d (l - x) ≤ 20000001 := by have := hiS_upto h1 hn0; omega
    have e4 : loS d (l - x) ≤ 10000000 := by have := loS_upto h0 hn0; omega
    have HF : Hid (bndF d l (x, y, z) = y + loS d (l - x)) := if_pos hx
    have HG : Hid (bndG d l (x, y, z) = z + hiS d (l - x)) := if_pos hx
    rw [HF.out, HG.out]
    have H := Lib.hid (heap_below (alloc_below w (.cells #[.int .i64 x, .int .i64 y, .int .i64 z] 46)) h)
    clear h
    generalize loS d (l - x) = lo at *
    generalize hiS d (l - x) = hi at *
    go_enter Try.func37, Try.ntmps37
    go_wp2_with fail
    refine (HS.out _).mono ?_
    rintro e w1 ⟨rfl, hB⟩
    have H2 := Lib.hid (heap_below hB H.out)
    have c0 := keptBelow hB (cell_rowN w #[.int .i64 x, .int .i64 y, .int .i64 z] 46 0 rfl)
    have c1 := keptBelow hB (cell_rowN w #[.int .i64 x, .int .i64 y, .int .i64 z] 46 1 rfl)
    have c2 := keptBelow hB (cell_rowN w #[.int .i64 x, .int .i64 y, .int .i64 z] 46 2 rfl)
    have HB := Lib.hid (belowVia hB (alloc_below w (.cells #[.int .i64 x, .int .i64 y, .int .i64 z] 46)))
    clear hB H HS HF HG
    go_wp2_with fail
    refine (narrow_any p f g _ _ _ H2.out).mono ?_
    rintro e w2 ⟨rfl, hh, hW⟩
    go_wp2_with fail
    go_end0
    exact ⟨rfl, hh, (Wrote.of_below HB.out).trans hW⟩
  · obtain rfl := hx
    have hn0 : (0 : Int) ≤ 0 := by omega
    have hn1 : (0 : Int) ≤ 10000000 := by omega
    have HS := Lib.hid (fun w => spread_ok d 0 w h0 h1 hn0 hn1)
    have e1 := loS_nonneg h0 hn0
    have e2 := hiS_nonneg h1 hn0
    have e3 := hiS_upto h1 hn0
    have e4 := loS_upto h0 hn0
    have HF : Hid (bndF d x (x, y, z) = y - hiS d 0) := by show _ = _; unfold bndF; rw [if_neg (by dsimp only; omega), if_neg (by dsimp only; omega)]
    have HG : Hid (bndG d x (x, y, z) = z + hiS d 0) := by show _ = _; unfold bndG; rw [if_neg (by dsimp only; omega), if_neg (by dsimp only; omega)]
    rw [HF.out, HG.out]
    have H := Lib.hid (heap_below (alloc_below w (.cells #[.int .i64 x, .int .i64 y, .int .i64 z] 46)) h)
    clear h
    generalize loS d 0 = lo at *
    generalize hiS d 0 = hi at *
    go_enter Try.func37, Try.ntmps37
    go_wp2_with fail
    refine (HS.out _).mono ?_
    rintro e w1 ⟨rfl, hB⟩
    have H2 := Lib.hid (heap_below hB H.out)
    have c0 := keptBelow hB (cell_rowN w #[.int .i64 x, .int .i64 y, .int .i64 z] 46 0 rfl)
    have c1 := keptBelow hB (cell_rowN w #[.int .i64 x, .int .i64 y, .int .i64 z] 46 1 rfl)
    have c2 := keptBelow hB (cell_rowN w #[.int .i64 x, .int .i64 y, .int .i64 z] 46 2 rfl)
    have HB := Lib.hid (belowVia hB (alloc_below w (.cells #[.int .i64 x, .int .i64 y, .int .i64 z] 46)))
    clear hB H HS HF HG
    go_wp2_with fail
    refine (narrow_any p f g _ _ _ H2.out).mono ?_
    rintro e w2 ⟨rfl, hh, hW⟩
    go_wp2_with fail
    go_end0
    exact ⟨rfl, hh, (Wrote.of_below HB.out).trans hW⟩
  · have hm : max (l - x) (x - l) = x - l := by omega
    have hn0 : 0 ≤ x - l := by omega
    have hn1 : x - l ≤ 10000000 := by omega
    have HS := Lib.hid (fun w => spread_ok d (x - l) w h0 h1 hn0 hn1)
    have e1 := loS_nonneg h0 hn0
    have e2 := hiS_nonneg h1 hn0
    have e3 : hiS d (x - l) ≤ 20000001 := by have := hiS_upto h1 hn0; omega
    have e4 : loS d (x - l) ≤ 10000000 := by have := loS_upto h0 hn0; omega
    have HF : Hid (bndF d l (x, y, z) = y - hiS d (x - l)) := by show _ = _; unfold bndF; rw [if_neg (by dsimp only; omega), if_pos hx]
    have HG : Hid (bndG d l (x, y, z) = z - loS d (x - l)) := by show _ = _; unfold bndG; rw [if_neg (by dsimp only; omega), if_pos hx]
    rw [HF.out, HG.out]
    have H := Lib.hid (heap_below (alloc_below w (.cells #[.int .i64 x, .int .i64 y, .int .i64 z] 46)) h)
    clear h
    generalize loS d (x - l) = lo at *
    generalize hiS d (x - l) = hi at *
    go_enter Try.func37, Try.ntmps37
    go_wp2_with fail
    refine (HS.out _).mono ?_
    rintro e w1 ⟨rfl, hB⟩
    have H2 := Lib.hid (heap_below hB H.out)
    have c0 := keptBelow hB (cell_rowN w #[.int .i64 x, .int .i64 y, .int .i64 z] 46 0 rfl)
    have c1 := keptBelow hB (cell_rowN w #[.int .i64 x, .int .i64 y, .int .i64 z] 46 1 rfl)
    have c2 := keptBelow hB (cell_rowN w #[.int .i64 x, .int .i64 y, .int .i64 z] 46 2 rfl)
    have HB := Lib.hid (belowVia hB (alloc_below w (.cells #[.int .i64 x, .int .i64 y, .int .i64 z] 46)))
    clear hB H HS HF HG
    go_wp2_with fail
    refine (narrow_any p f g _ _ _ H2.out).mono ?_
    rintro e w2 ⟨rfl, hh, hW⟩
    go_wp2_with fail
    go_end0
    exact ⟨rfl, hh, (Wrote.of_below HB.out).trans hW⟩

end Go.Proofs.Ytiakjaglnjecgaa
