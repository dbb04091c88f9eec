/- The contracts of At, Before and After. -/
import Derived.Test.YtiakjaglnjecgaaClkShownW
namespace Go.Proofs.Ytiakjaglnjecgaa
open Go.RowKit Putlog

theorem ret_iii {a b c d e f : Int} (h1 : a = d) (h2 : b = e) (h3 : c = f) : Ending.returned (.tuple #[.int .i64 a, .int .i64 b, .int .i64 c]) = Ending.returned (.tuple #[.int .i64 d, .int .i64 e, .int .i64 f]) := by rw [h1, h2, h3]
theorem atOk_valid {d l : Int} {rs : List Rd} (h : validC d rs = false) : atOk d rs l = false := by simp [atOk, h]
theorem atOk_range {d l : Int} {rs : List Rd} (h : l < 0 ∨ 10000000 < l) : atOk d rs l = false := by
  have : (decide (0 ≤ l) && decide (l ≤ 10000000)) = false := by simp; omega
  unfold atOk; rw [Bool.and_assoc (validC d rs), this]; simp
theorem atOk_win {d l : Int} {rs : List Rd} (h : winG d l rs < winF d l rs) : atOk d rs l = false := by
  have : decide (winF d l rs ≤ winG d l rs) = false := by simp; omega
  unfold atOk; rw [this]; simp

set_option maxRecDepth 100000 in
set_option maxHeartbeats 2000000 in
theorem at_ok (d l : Int) (rs : List Rd) (v : Value) (w : World) (h : RdsAt w v rs) (hok : atOk d rs l = true) :
    Calls Try.prog 14 #[.agg #[.int .i64 d, v], .int .i64 l] w fun e w' => e = .returned (.tuple #[.int .i64 (winF d l rs), .int .i64 (winG d l rs), .int .i64 0]) ∧ Below w.heap.size w w' := by
  obtain ⟨hv, h0, h1, hfg⟩ := atOk_iff.1 hok
  have HU := Lib.hid (upOne_iff.2 ⟨h0, h1⟩)
  have HV := Lib.hid (fun w h => valid_any d rs v w h)
  rw [hv] at HV
  have HS := Lib.hid (fun w h => shown_any d l rs v w h hv h0 h1)
  have y0 := cell_rowN w #[.int .i64 d, v] 24 0 rfl
  have y1 := cell_rowN w #[.int .i64 d, v] 24 1 rfl
  have HX := Lib.hid (alloc_below w (.cells #[.int .i64 d, v] 24))
  have HR := Lib.hid (h.via (alloc_below w (.cells #[.int .i64 d, v] 24)))
  clear hok hv h
  generalize winF d l rs = f at *
  generalize winG d l rs = g at *
  go_enter Try.func14, Try.ntmps14
  go_wp2_with fail
  generalize w.alloc (.cells #[.int .i64 d, v] 24) = w1 at *
  refine (HV.out _ HR.out).mono ?_
  rintro e w2 ⟨rfl, hB⟩
  have HX := Lib.hid (belowVia hB HX.out)
  have HR := Lib.hid (HR.out.via hB)
  replace y0 := keptBelow hB y0
  replace y1 := keptBelow hB y1
  clear hB HV
  go_wp2_with fail
  refine (up_one 10000000 l _ _ _ true HU.out (nums_one _ _ _ (by simp))).mono ?_
  rintro e w3 ⟨rfl, rfl⟩
  have hA := alloc_below w2 (.cells #[.int .i64 l] 3)
  have HX := Lib.hid (belowVia hA HX.out)
  have HR := Lib.hid (HR.out.via hA)
  replace y0 := keptBelow hA y0
  replace y1 := keptBelow hA y1
  clear hA
  generalize w2.alloc (.cells #[.int .i64 l] 3) = w3 at *
  go_wp2_with fail
  refine (HS.out _ HR.out).mono ?_
  rintro e w4 ⟨rfl, hB⟩
  have HX := Lib.hid (belowVia hB HX.out)
  clear hB HS HR y0 y1
  go_wp2_with fail
  go_quiet (fail)
  go_wp2_with fail
  go_ret3
  exact ⟨rfl, below_drewN (HX.out.alloc HX.out.size _) _⟩

set_option maxRecDepth 100000 in
set_option maxHeartbeats 2000000 in
theorem at_no (d l : Int) (rs : List Rd) (v : Value) (w : World) (h : RdsAt w v rs) (hno : atOk d rs l = false) :
    Calls Try.prog 14 #[.agg #[.int .i64 d, v], .int .i64 l] w fun e w' => e = .returned (.tuple #[.int .i64 0, .int .i64 0, .int .i64 50]) ∧ Below w.heap.size w w' := by
  have HV := Lib.hid (fun w h => valid_any d rs v w h)
  have y0 := cell_rowN w #[.int .i64 d, v] 24 0 rfl
  have y1 := cell_rowN w #[.int .i64 d, v] 24 1 rfl
  have HX := Lib.hid (alloc_below w (.cells #[.int .i64 d, v] 24))
  have HR := Lib.hid (h.via (alloc_below w (.cells #[.int .i64 d, v] 24)))
  clear h
  cases hv : validC d rs with
  | false =>
    rw [hv] at HV
    clear hv hno
    go_enter Try.func14, Try.ntmps14
    go_wp2_with fail
    generalize w.alloc (.cells #[.int .i64 d, v] 24) = w1 at *
    refine (HV.out _ HR.out).mono ?_
    rintro e w2 ⟨rfl, hB⟩
    have HX := Lib.hid (belowVia hB HX.out)
    have HR := Lib.hid (HR.out.via hB)
    replace y0 := keptBelow hB y0
    replace y1 := keptBelow hB y1
    clear hB HV
    go_wp2_with fail
    go_ret3
    exact ⟨rfl, HX.out⟩
  | true =>
    rw [hv] at HV
    by_cases hl : 0 ≤ l ∧ l ≤ 10000000
    · obtain ⟨h0, h1⟩ := hl
      have HS := Lib.hid (fun w h => shown_any d l rs v w h hv h0 h1)
      have hfg : winG d l rs < winF d l rs := by
        rcases Int.lt_or_le (winG d l rs) (winF d l rs) with k | k
        · exact k
        · rw [atOk_iff.2 ⟨hv, h0, h1, k⟩] at hno; cases hno
      have HU := Lib.hid (upOne_iff.2 ⟨h0, h1⟩)
      clear hv hno
      generalize winF d l rs = f at *
      generalize winG d l rs = g at *
      go_enter Try.func14, Try.ntmps14
      go_wp2_with fail
      generalize w.alloc (.cells #[.int .i64 d, v] 24) = w1 at *
      refine (HV.out _ HR.out).mono ?_
      rintro e w2 ⟨rfl, hB⟩
      have HX := Lib.hid (belowVia hB HX.out)
      have HR := Lib.hid (HR.out.via hB)
      replace y0 := keptBelow hB y0
      replace y1 := keptBelow hB y1
      clear hB HV
      go_wp2_with fail
      refine (up_one 10000000 l _ _ _ true HU.out (nums_one _ _ _ (by simp))).mono ?_
      rintro e w3 ⟨rfl, rfl⟩
      have hA := alloc_below w2 (.cells #[.int .i64 l] 3)
      have HX := Lib.hid (belowVia hA HX.out)
      have HR := Lib.hid (HR.out.via hA)
      replace y0 := keptBelow hA y0
      replace y1 := keptBelow hA y1
      clear hA
      generalize w2.alloc (.cells #[.int .i64 l] 3) = w3 at *
      go_wp2_with fail
      refine (HS.out _ HR.out).mono ?_
      rintro e w4 ⟨rfl, hB⟩
      have HX := Lib.hid (belowVia hB HX.out)
      clear hB HS HR y0 y1
      go_wp2_with fail
      go_ret3
      exact ⟨rfl, HX.out.alloc HX.out.size _⟩
    · have HU := Lib.hid (upOne_no.2 (show l < 0 ∨ 10000000 < l by omega))
      clear hv hno hl
      go_enter Try.func14, Try.ntmps14
      go_wp2_with fail
      generalize w.alloc (.cells #[.int .i64 d, v] 24) = w1 at *
      refine (HV.out _ HR.out).mono ?_
      rintro e w2 ⟨rfl, hB⟩
      have HX := Lib.hid (belowVia hB HX.out)
      have HR := Lib.hid (HR.out.via hB)
      replace y0 := keptBelow hB y0
      replace y1 := keptBelow hB y1
      clear hB HV
      go_wp2_with fail
      refine (up_one 10000000 l _ _ _ false HU.out (nums_one _ _ _ (by simp))).mono ?_
      rintro e w3 ⟨rfl, rfl⟩
      go_wp2_with fail
      go_ret3
      exact ⟨rfl, HX.out.alloc HX.out.size _⟩

def beforeB (d : Int) (rs : List Rd) (l t : Int) : Bool := atOk d rs l && decide (winG d l rs < t)
def afterB (d : Int) (rs : List Rd) (l t : Int) : Bool := atOk d rs l && decide (t < winF d l rs)

set_option maxRecDepth 100000 in
set_option maxHeartbeats 2000000 in
theorem before_any (d l t : Int) (rs : List Rd) (v : Value) (w : World) (h : RdsAt w v rs) :
    Calls Try.prog 18 #[.agg #[.int .i64 d, v], .int .i64 l, .int .i64 t] w fun e w' => e = .returned (.bool (beforeB d rs l t)) ∧ Below w.heap.size w w' := by
  have y0 := cell_rowN w #[.int .i64 d, v] 24 0 rfl
  have y1 := cell_rowN w #[.int .i64 d, v] 24 1 rfl
  have HX := Lib.hid (alloc_below w (.cells #[.int .i64 d, v] 24))
  have HR := Lib.hid (h.via (alloc_below w (.cells #[.int .i64 d, v] 24)))
  clear h
  cases hok : atOk d rs l with
  | false =>
    have HV := Lib.hid (fun w h => at_no d l rs v w h hok)
    have HE : Hid (beforeB d rs l t = false) := by show _ = _; unfold beforeB; rw [hok]; rfl
    clear hok
    go_enter Try.func18, Try.ntmps18
    go_wp2_with fail
    generalize w.alloc (.cells #[.int .i64 d, v] 24) = w1 at *
    refine (HV.out _ HR.out).mono ?_
    rintro e w2 ⟨rfl, hB⟩
    have HX := Lib.hid (belowVia hB HX.out)
    clear hB HV y0 y1
    go_wp2_with fail
    go_ret
    exact ⟨ret_bool HE.out.symm, HX.out⟩
  | true =>
    have HV := Lib.hid (fun w h => at_ok d l rs v w h hok)
    have HE : Hid (beforeB d rs l t = decide (winG d l rs < t)) := by show _ = _; unfold beforeB; rw [hok]; rfl
    clear hok
    generalize winF d l rs = f at *
    generalize winG d l rs = g at *
    by_cases hc : g < t
    all_goals
      go_enter Try.func18, Try.ntmps18
      go_wp2_with fail
      generalize w.alloc (.cells #[.int .i64 d, v] 24) = w1 at *
      refine (HV.out _ HR.out).mono ?_
      rintro e w2 ⟨rfl, hB⟩
      have HX := Lib.hid (belowVia hB HX.out)
      clear hB HV y0 y1
      go_wp2_with fail
      go_ret
      exact ⟨ret_bool (by rw [HE.out]; first | done | simp [hc]), HX.out⟩

set_option maxRecDepth 100000 in
set_option maxHeartbeats 2000000 in
theorem after_any (d l t : Int) (rs : List Rd) (v : Value) (w : World) (h : RdsAt w v rs) :
    Calls Try.prog 20 #[.agg #[.int .i64 d, v], .int .i64 l, .int .i64 t] w fun e w' => e = .returned (.bool (afterB d rs l t)) ∧ Below w.heap.size w w' := by
  have y0 := cell_rowN w #[.int .i64 d, v] 24 0 rfl
  have y1 := cell_rowN w #[.int .i64 d, v] 24 1 rfl
  have HX := Lib.hid (alloc_below w (.cells #[.int .i64 d, v] 24))
  have HR := Lib.hid (h.via (alloc_below w (.cells #[.int .i64 d, v] 24)))
  clear h
  cases hok : atOk d rs l with
  | false =>
    have HV := Lib.hid (fun w h => at_no d l rs v w h hok)
    have HE : Hid (afterB d rs l t = false) := by show _ = _; unfold afterB; rw [hok]; rfl
    clear hok
    go_enter Try.func20, Try.ntmps20
    go_wp2_with fail
    generalize w.alloc (.cells #[.int .i64 d, v] 24) = w1 at *
    refine (HV.out _ HR.out).mono ?_
    rintro e w2 ⟨rfl, hB⟩
    have HX := Lib.hid (belowVia hB HX.out)
    clear hB HV y0 y1
    go_wp2_with fail
    go_ret
    exact ⟨ret_bool HE.out.symm, HX.out⟩
  | true =>
    have HV := Lib.hid (fun w h => at_ok d l rs v w h hok)
    have HE : Hid (afterB d rs l t = decide (t < winF d l rs)) := by show _ = _; unfold afterB; rw [hok]; rfl
    clear hok
    generalize winF d l rs = f at *
    generalize winG d l rs = g at *
    by_cases hc : t < f
    all_goals
      go_enter Try.func20, Try.ntmps20
      go_wp2_with fail
      generalize w.alloc (.cells #[.int .i64 d, v] 24) = w1 at *
      refine (HV.out _ HR.out).mono ?_
      rintro e w2 ⟨rfl, hB⟩
      have HX := Lib.hid (belowVia hB HX.out)
      clear hB HV y0 y1
      go_wp2_with fail
      go_ret
      exact ⟨ret_bool (by rw [HE.out]; first | done | simp [hc]), HX.out⟩
end Go.Proofs.Ytiakjaglnjecgaa
