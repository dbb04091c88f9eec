/- The fixed examples hold. -/
import Derived.Test.YtiakjaglnjecgaaClkSaneP
import Derived.Test.YtiakjaglnjecgaaClkReads
import Derived.Test.YtiakjaglnjecgaaClkAgree
namespace Go.Proofs.Ytiakjaglnjecgaa
open Go.RowKit Putlog

/-- A clock in a box. -/
structure ClockAt (d : Int) (v : Value) (rs : List Rd) (q : Nat) (w : World) : Prop where
  c0 : w.cell? ⟨q, 0, none⟩ = some (.int .i64 d)
  c1 : w.cell? ⟨q, 1, none⟩ = some v
  rd : RdsAt w v rs
theorem ClockAt.via {d : Int} {v : Value} {rs : List Rd} {q : Nat} {a b : World} (h : ClockAt d v rs q a) (hB : Below a.heap.size a b) : ClockAt d v rs q b := ⟨keptBelow hB h.c0, keptBelow hB h.c1, h.rd.via hB⟩
theorem ex_rd (w : World) (t : TypeId) : RdsAt (w.alloc (.cells #[.int .i64 1000, .int .i64 2000, .int .i64 2010] t)) (.slice (some ⟨w.heap.size, 0, none⟩) 1 1) exR :=
  ⟨⟨_, 1, rfl, Nat.le_refl _, by decide, .inr ⟨_, 0, rfl, fun j hj => by
    obtain rfl : j = 0 := by simp at hj; omega
    exact ⟨cell_rowN _ _ _ _ rfl, cell_rowN _ _ _ _ rfl, cell_rowN _ _ _ _ rfl⟩⟩⟩, fun r hr => by simp at hr; subst hr; exact ⟨⟨by decide, by decide⟩, ⟨by decide, by decide⟩, ⟨by decide, by decide⟩⟩⟩
theorem ex_sp (w : World) (t : TypeId) {b : Nat} (hb : b = w.heap.size) : SpsAt (w.alloc (.cells #[.int .i64 0, .int .i64 10, .int .i64 5, .int .i64 15, .int .i64 8, .int .i64 9, .int .i64 12, .int .i64 20] t)) (.slice (some ⟨b, 0, none⟩) 4 4) exS := by
  subst hb
  refine ⟨⟨_, 4, rfl, Nat.le_refl _, by decide, .inr ⟨_, 0, rfl, fun j hj => ?_⟩⟩, fun r hr => ?_⟩
  · have : j = 0 ∨ j = 1 ∨ j = 2 ∨ j = 3 := by simp at hj; omega
    rcases this with rfl | rfl | rfl | rfl <;> exact ⟨cell_rowN _ _ _ _ rfl, cell_rowN _ _ _ _ rfl⟩
  · simp at hr
    rcases hr with rfl | rfl | rfl | rfl <;> exact ⟨⟨by decide, by decide⟩, ⟨by decide, by decide⟩⟩
theorem ex_at1_any (v : Value) (w : World) (h : RdsAt w v exR) : Calls Try.prog 14 #[.agg #[.int .i64 100, v], .int .i64 1110] w fun e w' => e = .returned (.tuple #[.int .i64 2100, .int .i64 2133, .int .i64 0]) ∧ Below w.heap.size w w' := by
  have := at_ok 100 1110 exR v w h ex_at1.1
  rwa [ex_at1.2.1, ex_at1.2.2] at this
theorem ex_at2_any (v : Value) (w : World) (h : RdsAt w v exR) : Calls Try.prog 14 #[.agg #[.int .i64 100, v], .int .i64 890] w fun e w' => e = .returned (.tuple #[.int .i64 1877, .int .i64 1910, .int .i64 0]) ∧ Below w.heap.size w w' := by
  have := at_ok 100 890 exR v w h ex_at2.1
  rwa [ex_at2.2.1, ex_at2.2.2] at this
theorem ex_reads_any (v : Value) (w : World) (h : RdsAt w v exR) : Calls Try.prog 16 #[.agg #[.int .i64 100, v], .int .i64 2005] w fun e w' => e = .returned (.tuple #[.int .i64 994, .int .i64 1006, .int .i64 0]) ∧ Below w.heap.size w w' := by
  refine (reads_ok 100 2005 exR v w h ex_valid (by decide) (by decide)).mono ?_
  rintro e w' ⟨⟨a, b, hi, hr⟩, hB⟩
  obtain rfl := hi.least.uniq ex_reads.least
  obtain rfl := hi.beyond.uniq ex_reads.beyond
  rcases hr with ⟨_, he⟩ | ⟨h, _⟩
  · exact ⟨he, hB⟩
  · omega
theorem ex_agree_any (v : Value) (w : World) (h : SpsAt w v exS) : Calls Try.prog 7 #[v] w fun e w' => e = .returned (.tuple #[.agg #[.int .i64 8, .int .i64 9], .int .i64 3]) ∧ Below w.heap.size w w' := by
  refine (agree_any exS (by decide) v w h).mono ?_
  rintro e w' ⟨a, b, k, he, ha, hB⟩
  obtain ⟨rfl, rfl, rfl⟩ := ha.uniq ex_agreed
  exact ⟨he, hB⟩
theorem ex_spread_any (d n a b : Int) (h0 : 0 ≤ d) (h1 : d ≤ 100) (h2 : 0 ≤ n) (h3 : n ≤ 10000000) (ha : loS d n = a) (hb : hiS d n = b) (w : World) : Calls Try.prog 5 #[.int .i64 d, .int .i64 n] w fun e w' => e = .returned (.tuple #[.int .i64 a, .int .i64 b]) ∧ Below w.heap.size w w' := by
  rw [← ha, ← hb]; exact spread_ok d n w h0 h1 h2 h3
theorem ex_valid_any (v : Value) (w : World) (h : RdsAt w v exR) : Calls Try.prog 11 #[.agg #[.int .i64 100, v]] w fun e w' => e = .returned (.bool true) ∧ Below w.heap.size w w' := by
  have := valid_any 100 exR v w h
  rwa [ex_valid] at this
theorem ex_before_any (l t : Int) (r : Bool) (hr : beforeB 100 exR l t = r) (v : Value) (w : World) (h : RdsAt w v exR) : Calls Try.prog 18 #[.agg #[.int .i64 100, v], .int .i64 l, .int .i64 t] w fun e w' => e = .returned (.bool r) ∧ Below w.heap.size w w' := by
  rw [← hr]; exact before_any 100 l t exR v w h
theorem ex_after_any (l t : Int) (r : Bool) (hr : afterB 100 exR l t = r) (v : Value) (w : World) (h : RdsAt w v exR) : Calls Try.prog 20 #[.agg #[.int .i64 100, v], .int .i64 l, .int .i64 t] w fun e w' => e = .returned (.bool r) ∧ Below w.heap.size w w' := by
  rw [← hr]; exact after_any 100 l t exR v w h

set_option maxRecDepth 100000 in
set_option maxHeartbeats 4000000 in
theorem sane_any (W : World) : Calls Try.prog 4 #[] W fun e w' => e = .returned (.bool true) ∧ Below W.heap.size W w' := by
  go_enter Try.func4, Try.ntmps4
  go_wp2_with fail
  have x1 := alloc_below W (.cells #[.int .i64 1000, .int .i64 2000, .int .i64 2010] 46)
  have y1 := ex_rd W 46
  have z1 : (W.alloc (.cells #[.int .i64 1000, .int .i64 2000, .int .i64 2010] 46)).heap.size = W.heap.size + 1 := by simp
  generalize W.alloc (.cells #[.int .i64 1000, .int .i64 2000, .int .i64 2010] 46) = w1 at *
  have x2 := alloc_below w1 (.cells #[.int .i64 100, .slice (some ⟨W.heap.size, 0, none⟩) 1 1] 24)
  have y2 := cell_rowN w1 #[.int .i64 100, .slice (some ⟨W.heap.size, 0, none⟩) 1 1] 24 0 rfl
  have y3 := cell_rowN w1 #[.int .i64 100, .slice (some ⟨W.heap.size, 0, none⟩) 1 1] 24 1 rfl
  rw [z1] at y2 y3
  have HC : Hid (ClockAt 100 (.slice (some ⟨W.heap.size, 0, none⟩) 1 1) exR (W.heap.size + 1) (w1.alloc (.cells #[.int .i64 100, .slice (some ⟨W.heap.size, 0, none⟩) 1 1] 24))) := ⟨y2, y3, y1.via x2⟩
  have HX := Lib.hid (belowVia x2 x1)
  clear x1 y1 z1 x2 y2 y3
  generalize w1.alloc (.cells #[.int .i64 100, .slice (some ⟨W.heap.size, 0, none⟩) 1 1] 24) = w2 at *
  clear w1
  refine (ex_spread_any 0 7 7 7 (by decide) (by decide) (by decide) (by decide) (by decide) (by decide) _).mono ?_
  rintro e w3 ⟨rfl, hB⟩
  have HC := Lib.hid (HC.out.via hB)
  have HX := Lib.hid (belowVia hB HX.out)
  clear hB
  have c0 := HC.out.c0
  have c1 := HC.out.c1
  go_wp2_with fail
  clear c0 c1
  refine (ex_spread_any 100 0 0 1 (by decide) (by decide) (by decide) (by decide) (by decide) (by decide) _).mono ?_
  rintro e w4 ⟨rfl, hB⟩
  have HC := Lib.hid (HC.out.via hB)
  have HX := Lib.hid (belowVia hB HX.out)
  clear hB
  have c0 := HC.out.c0
  have c1 := HC.out.c1
  go_wp2_with fail
  clear c0 c1
  refine (ex_spread_any 100 110 100 123 (by decide) (by decide) (by decide) (by decide) (by decide) (by decide) _).mono ?_
  rintro e w5 ⟨rfl, hB⟩
  have HC := Lib.hid (HC.out.via hB)
  have HX := Lib.hid (belowVia hB HX.out)
  clear hB
  have c0 := HC.out.c0
  have c1 := HC.out.c1
  go_wp2_with fail
  clear c0 c1
  refine (ex_at1_any _ _ HC.out.rd).mono ?_
  rintro e w6 ⟨rfl, hB⟩
  have HC := Lib.hid (HC.out.via hB)
  have HX := Lib.hid (belowVia hB HX.out)
  clear hB
  have c0 := HC.out.c0
  have c1 := HC.out.c1
  go_wp2_with fail
  clear c0 c1
  refine (ex_at2_any _ _ HC.out.rd).mono ?_
  rintro e w7 ⟨rfl, hB⟩
  have HC := Lib.hid (HC.out.via hB)
  have HX := Lib.hid (belowVia hB HX.out)
  clear hB
  have c0 := HC.out.c0
  have c1 := HC.out.c1
  go_wp2_with fail
  clear c0 c1
  refine (ex_reads_any _ _ HC.out.rd).mono ?_
  rintro e w8 ⟨rfl, hB⟩
  have HC := Lib.hid (HC.out.via hB)
  have HX := Lib.hid (belowVia hB HX.out)
  clear hB
  have c0 := HC.out.c0
  have c1 := HC.out.c1
  go_wp2_with fail
  clear c0 c1
  have HC := Lib.hid (HC.out.via (alloc_below w8 (.cells #[.int .i64 0, .int .i64 10, .int .i64 5, .int .i64 15, .int .i64 8, .int .i64 9, .int .i64 12, .int .i64 20] 32)))
  have HX := Lib.hid (belowVia (alloc_below w8 (.cells #[.int .i64 0, .int .i64 10, .int .i64 5, .int .i64 15, .int .i64 8, .int .i64 9, .int .i64 12, .int .i64 20] 32)) HX.out)
  refine (ex_agree_any _ _ (ex_sp w8 _ rfl)).mono ?_
  rintro e w9 ⟨rfl, hB⟩
  have HC := Lib.hid (HC.out.via hB)
  have HX := Lib.hid (belowVia hB HX.out)
  clear hB
  have bl := alloc_below w9 (.cells #[.int .i64 8, .int .i64 9] 32)
  have HC := Lib.hid (HC.out.via bl)
  have HX := Lib.hid (belowVia bl HX.out)
  have B0 := Lib.hid (cell_rowN w9 #[.int .i64 8, .int .i64 9] 32 0 rfl)
  have B1 := Lib.hid (cell_rowN w9 #[.int .i64 8, .int .i64 9] 32 1 rfl)
  have c0 := HC.out.c0
  have c1 := HC.out.c1
  have b0 := B0.out
  have b1 := B1.out
  clear bl
  go_wp2_with fail
  clear c0 c1 b0 b1
  generalize w9.alloc (.cells #[.int .i64 8, .int .i64 9] 32) = wx at *
  refine (ex_valid_any _ _ HC.out.rd).mono ?_
  rintro e w10 ⟨rfl, hB⟩
  have HC := Lib.hid (HC.out.via hB)
  have HX := Lib.hid (belowVia hB HX.out)
  have B0 := Lib.hid (keptBelow hB B0.out)
  have B1 := Lib.hid (keptBelow hB B1.out)
  clear hB
  have c0 := HC.out.c0
  have c1 := HC.out.c1
  have b0 := B0.out
  have b1 := B1.out
  go_wp2_with fail
  clear c0 c1 b0 b1
  refine (ex_before_any 890 1911 true (by decide) _ _ HC.out.rd).mono ?_
  rintro e w11 ⟨rfl, hB⟩
  have HC := Lib.hid (HC.out.via hB)
  have HX := Lib.hid (belowVia hB HX.out)
  have B0 := Lib.hid (keptBelow hB B0.out)
  have B1 := Lib.hid (keptBelow hB B1.out)
  clear hB
  have c0 := HC.out.c0
  have c1 := HC.out.c1
  have b0 := B0.out
  have b1 := B1.out
  go_wp2_with fail
  clear c0 c1 b0 b1
  refine (ex_before_any 890 1910 false (by decide) _ _ HC.out.rd).mono ?_
  rintro e w12 ⟨rfl, hB⟩
  have HC := Lib.hid (HC.out.via hB)
  have HX := Lib.hid (belowVia hB HX.out)
  have B0 := Lib.hid (keptBelow hB B0.out)
  have B1 := Lib.hid (keptBelow hB B1.out)
  clear hB
  have c0 := HC.out.c0
  have c1 := HC.out.c1
  have b0 := B0.out
  have b1 := B1.out
  go_wp2_with fail
  clear c0 c1 b0 b1
  refine (ex_after_any 1110 2099 true (by decide) _ _ HC.out.rd).mono ?_
  rintro e w13 ⟨rfl, hB⟩
  have HC := Lib.hid (HC.out.via hB)
  have HX := Lib.hid (belowVia hB HX.out)
  have B0 := Lib.hid (keptBelow hB B0.out)
  have B1 := Lib.hid (keptBelow hB B1.out)
  clear hB
  have c0 := HC.out.c0
  have c1 := HC.out.c1
  have b0 := B0.out
  have b1 := B1.out
  go_wp2_with fail
  clear c0 c1 b0 b1
  refine (ex_after_any 1110 2100 false (by decide) _ _ HC.out.rd).mono ?_
  rintro e w14 ⟨rfl, hB⟩
  have HC := Lib.hid (HC.out.via hB)
  have HX := Lib.hid (belowVia hB HX.out)
  have B0 := Lib.hid (keptBelow hB B0.out)
  have B1 := Lib.hid (keptBelow hB B1.out)
  clear hB
  go_wp2_with fail
  go_ret
  exact ⟨rfl, HX.out⟩
end Go.Proofs.Ytiakjaglnjecgaa
