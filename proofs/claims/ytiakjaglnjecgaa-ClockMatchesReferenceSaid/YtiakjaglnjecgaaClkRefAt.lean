/- The reference's At, Before and After. -/
import Derived.Test.YtiakjaglnjecgaaClkRefBounds
import Derived.Test.YtiakjaglnjecgaaClkRefValid
import Derived.Test.YtiakjaglnjecgaaClkAt
namespace Go.Proofs.Ytiakjaglnjecgaa
open Go.RowKit Putlog

set_option maxRecDepth 100000 in
set_option maxHeartbeats 2000000 in
theorem rat_ok (d l : Int) (rs : List Rd) (v : Value) (w : World) (h : RdsAt w v rs) (hok : atOk d rs l = true) :
    Calls Try.prog 15 #[.agg #[.int .i64 d, v], .int .i64 l] w fun e w' => e = .returned (.tuple #[.int .i64 (winF d l rs), .int .i64 (winG d l rs), .int .i64 0]) ∧ Below w.heap.size w w' := by
  obtain ⟨hv, h0, h1, hfg⟩ := atOk_iff.1 hok
  have HV := Lib.hid (fun w h => rvalid_any d rs v w h)
  rw [hv] at HV
  have HS := Lib.hid (fun w h => rbounds_ok d l rs v w h hv h0 h1)
  have y0 := cell_rowN w #[.int .i64 d, v] 24 0 rfl
  have y1 := cell_rowN w #[.int .i64 d, v] 24 1 rfl
  have HX := Lib.hid (alloc_below w (.cells #[.int .i64 d, v] 24))
  have HR := Lib.hid (h.via (alloc_below w (.cells #[.int .i64 d, v] 24)))
  clear h hok hv
  generalize winF d l rs = f at *
  generalize winG d l rs = g at *
  go_enter Try.func15, Try.ntmps15
  go_wp2_with fail
  generalize w.alloc (.cells #[.int .i64 d, v] 24) = w1 at *
  refine (HV.out _ HR.out).mono ?_
  rintro e w2 ⟨rfl, hB⟩
  have HX := Lib.hid (belowVia hB HX.out)
  have HR := Lib.hid (HR.out.via hB)
  replace y0 := keptBelow hB y0
  replace y1 := keptBelow hB y1
  clear hB HV
  go_wp2_with fail
  refine (HS.out _ HR.out).mono ?_
  rintro e w4 ⟨rfl, hB⟩
  have HX := Lib.hid (belowVia hB HX.out)
  clear hB HS HR y0 y1
  go_wp2_with fail
  go_ret3
  exact ⟨rfl, HX.out⟩
set_option maxRecDepth 100000 in
set_option maxHeartbeats 2000000 in
theorem rat_no (d l : Int) (rs : List Rd) (v : Value) (w : World) (h : RdsAt w v rs) (hno : atOk d rs l = false) :
    Calls Try.prog 15 #[.agg #[.int .i64 d, v], .int .i64 l] w fun e w' => e = .returned (.tuple #[.int .i64 0, .int .i64 0, .int .i64 50]) ∧ Below w.heap.size w w' := by
  have HV := Lib.hid (fun w h => rvalid_any d rs v w h)
  have y0 := cell_rowN w #[.int .i64 d, v] 24 0 rfl
  have y1 := cell_rowN w #[.int .i64 d, v] 24 1 rfl
  have HX := Lib.hid (alloc_below w (.cells #[.int .i64 d, v] 24))
  have HR := Lib.hid (h.via (alloc_below w (.cells #[.int .i64 d, v] 24)))
  clear h
  rcases (show validC d rs = false ∨ (validC d rs = true ∧ l < 0) ∨ (validC d rs = true ∧ 0 ≤ l ∧ 10000000 < l) ∨ (validC d rs = true ∧ 0 ≤ l ∧ l ≤ 10000000) by cases validC d rs <;> simp <;> omega) with k | ⟨k, k2⟩ | ⟨k, k2, k3⟩ | ⟨k, h0, h1⟩
  all_goals rw [k] at HV
  iterate 3
    clear k hno
    go_enter Try.func15, Try.ntmps15
    go_wp2_with fail
    generalize w.alloc (.cells #[.int .i64 d, v] 24) = w1 at *
    refine (HV.out _ HR.out).mono ?_
    rintro e w2 ⟨rfl, hB⟩
    have HX := Lib.hid (belowVia hB HX.out)
    clear hB HV HR y0 y1
    go_wp2_with fail
    go_ret3
    exact ⟨rfl, HX.out⟩
  have HS := Lib.hid (fun w h => rbounds_ok d l rs v w h k h0 h1)
  have hfg : winG d l rs < winF d l rs := by
    rcases Int.lt_or_le (winG d l rs) (winF d l rs) with q | q
    · exact q
    · rw [atOk_iff.2 ⟨k, h0, h1, q⟩] at hno; cases hno
  clear k hno
  generalize winF d l rs = f at *
  generalize winG d l rs = g at *
  go_enter Try.func15, Try.ntmps15
  go_wp2_with fail
  generalize w.alloc (.cells #[.int .i64 d, v] 24) = w1 at *
  refine (HV.out _ HR.out).mono ?_
  rintro e w2 ⟨rfl, hB⟩
  have HX := Lib.hid (belowVia hB HX.out)
  have HR := Lib.hid (HR.out.via hB)
  replace y0 := keptBelow hB y0
  replace y1 := keptBelow hB y1
  clear hB HV
  go_wp2_with fail
  refine (HS.out _ HR.out).mono ?_
  rintro e w4 ⟨rfl, hB⟩
  have HX := Lib.hid (belowVia hB HX.out)
  clear hB HS HR y0 y1
  go_wp2_with fail
  go_ret3
  exact ⟨rfl, HX.out⟩
set_option maxRecDepth 100000 in
set_option maxHeartbeats 2000000 in
theorem rbefore_any (d l t : Int) (rs : List Rd) (v : Value) (w : World) (h : RdsAt w v rs) :
    Calls Try.prog 19 #[.agg #[.int .i64 d, v], .int .i64 l, .int .i64 t] w fun e w' => e = .returned (.bool (beforeB d rs l t)) ∧ Below w.heap.size w w' := by
  have y0 := cell_rowN w #[.int .i64 d, v] 24 0 rfl
  have y1 := cell_rowN w #[.int .i64 d, v] 24 1 rfl
  have HX := Lib.hid (alloc_below w (.cells #[.int .i64 d, v] 24))
  have HR := Lib.hid (h.via (alloc_below w (.cells #[.int .i64 d, v] 24)))
  clear h
  cases hok : atOk d rs l with
  | false =>
    have HV := Lib.hid (fun w h => rat_no d l rs v w h hok)
    have HE : Hid (beforeB d rs l t = false) := by show _ = _; unfold beforeB; rw [hok]; rfl
    clear hok
    go_enter Try.func19, Try.ntmps19
    go_wp2_with fail
    generalize w.alloc (.cells #[.int .i64 d, v] 24) = w1 at *
    refine (HV.out _ HR.out).mono ?_
    rintro e w2 ⟨rfl, hB⟩
    have HX := Lib.hid (belowVia hB HX.out)
    clear hB HV y0 y1
    go_wp2_with fail
    go_ret
    exact ⟨ret_bool HE.out.symm, HX.out⟩
  | true =>
    have HV := Lib.hid (fun w h => rat_ok d l rs v w h hok)
    have HE : Hid (beforeB d rs l t = decide (winG d l rs < t)) := by show _ = _; unfold beforeB; rw [hok]; rfl
    clear hok
    generalize winF d l rs = f at *
    generalize winG d l rs = g at *
    by_cases hc : g < t
    all_goals
      go_enter Try.func19, Try.ntmps19
      go_wp2_with fail
      generalize w.alloc (.cells #[.int .i64 d, v] 24) = w1 at *
      refine (HV.out _ HR.out).mono ?_
      rintro e w2 ⟨rfl, hB⟩
      have HX := Lib.hid (belowVia hB HX.out)
      clear hB HV y0 y1
      go_wp2_with fail
      go_ret
      exact ⟨ret_bool (by rw [HE.out]; first | done | simp [hc]), HX.out⟩

set_option maxRecDepth 100000 in
set_option maxHeartbeats 2000000 in
theorem rafter_any (d l t : Int) (rs : List Rd) (v : Value) (w : World) (h : RdsAt w v rs) :
    Calls Try.prog 21 #[.agg #[.int .i64 d, v], .int .i64 l, .int .i64 t] w fun e w' => e = .returned (.bool (afterB d rs l t)) ∧ Below w.heap.size w w' := by
  have y0 := cell_rowN w #[.int .i64 d, v] 24 0 rfl
  have y1 := cell_rowN w #[.int .i64 d, v] 24 1 rfl
  have HX := Lib.hid (alloc_below w (.cells #[.int .i64 d, v] 24))
  have HR := Lib.hid (h.via (alloc_below w (.cells #[.int .i64 d, v] 24)))
  clear h
  cases hok : atOk d rs l with
  | false =>
    have HV := Lib.hid (fun w h => rat_no d l rs v w h hok)
    have HE : Hid (afterB d rs l t = false) := by show _ = _; unfold afterB; rw [hok]; rfl
    clear hok
    go_enter Try.func21, Try.ntmps21
    go_wp2_with fail
    generalize w.alloc (.cells #[.int .i64 d, v] 24) = w1 at *
    refine (HV.out _ HR.out).mono ?_
    rintro e w2 ⟨rfl, hB⟩
    have HX := Lib.hid (belowVia hB HX.out)
    clear hB HV y0 y1
    go_wp2_with fail
    go_ret
    exact ⟨ret_bool HE.out.symm, HX.out⟩
  | true =>
    have HV := Lib.hid (fun w h => rat_ok d l rs v w h hok)
    have HE : Hid (afterB d rs l t = decide (t < winF d l rs)) := by show _ = _; unfold afterB; rw [hok]; rfl
    clear hok
    generalize winF d l rs = f at *
    generalize winG d l rs = g at *
    by_cases hc : t < f
    all_goals
      go_enter Try.func21, Try.ntmps21
      go_wp2_with fail
      generalize w.alloc (.cells #[.int .i64 d, v] 24) = w1 at *
      refine (HV.out _ HR.out).mono ?_
      rintro e w2 ⟨rfl, hB⟩
      have HX := Lib.hid (belowVia hB HX.out)
      clear hB HV y0 y1
      go_wp2_with fail
      go_ret
      exact ⟨ret_bool (by rw [HE.out]; first | done | simp [hc]), HX.out⟩
end Go.Proofs.Ytiakjaglnjecgaa
