/- ClockExact: what the law's body answers. -/
import Derived.Test.YtebhalcoemkomaaClkSane
import Derived.Test.YtebhalcoemkomaaClkCourseW
namespace Go.Proofs.Ytebhalcoemkomaa
open Go.RowKit Putlog

theorem hiS_limit {d n : Int} (h0 : 0 ≤ d) (h1 : d ≤ 100) (hn : 0 ≤ n) (hn1 : n ≤ 10000000) : hiS d n ≤ 11111113 := by
  have h : ¬ (11111114 ≤ hiS d n) := by
    rw [le_hiS h1]
    have := Int.mul_le_mul_of_nonneg_right (show (900 : Int) ≤ 1000 - d by omega) (show (0 : Int) ≤ 11111114 by decide)
    omega
  omega
theorem mul_small {a v : Int} (ha0 : 0 ≤ a) (ha : a ≤ 1100) (hv0 : 0 ≤ v) (hv : v ≤ 20000001) : 0 ≤ a * v ∧ a * v ≤ 22000001100 := by
  have h1 := Int.mul_nonneg ha0 hv0
  have h2 := Int.mul_le_mul_of_nonneg_right ha hv0
  omega

theorem nums_new (w : World) (l : List Int) (t : TypeId) : NumsIn (w.alloc (.cells (l.map (Value.int .i64)).toArray t)) (some ⟨w.heap.size, 0, none⟩) l := .inr ⟨_, 0, rfl, fun j hj => by
  refine cell_rowN _ _ _ _ ?_
  rw [Nat.zero_add, List.getElem?_toArray, List.getElem?_map, List.getElem?_eq_getElem hj, List.getD_eq_getElem?_getD, List.getElem?_eq_getElem hj]; rfl⟩
set_option maxRecDepth 100000 in
set_option maxHeartbeats 8000000 in
theorem Exact_calls (drift more n m x : Int) (W : World) (h0 : I64 drift) (h1 : I64 more) (h2 : I64 n) (h3 : I64 m) (h4 : I64 x) :
    Calls Try.prog 5 #[.int .i64 drift, .int .i64 more, .int .i64 n, .int .i64 m, .int .i64 x] W fun e w' => e = .returned (.bool true) ∧ Below W.heap.size W w' := by
  have HD := Lib.hid (fun w => pick_any drift 101 h0.1 h0.2 (by decide) (by decide) w)
  have HN := Lib.hid (fun w => pick_any n 10000001 h2.1 h2.2 (by decide) (by decide) w)
  obtain ⟨d0, d1'⟩ := pkN_bounds drift (n := 101) (by decide)
  obtain ⟨n0, n1'⟩ := pkN_bounds n (n := 10000001) (by decide)
  have d1 : pkN drift 101 ≤ 100 := by omega
  have n1 : pkN n 10000001 ≤ 10000000 := by omega
  clear d1' n1' h0 h2
  generalize pkN drift 101 = d at *
  generalize pkN n 10000001 = N at *
  have HM := Lib.hid (fun w => pick_any m (10000001 - N) h3.1 h3.2 (by omega) (by omega) w)
  obtain ⟨m0, m1'⟩ := pkN_bounds m (n := 10000001 - N) (by omega)
  have m1 : pkN m (10000001 - N) ≤ 10000000 - N := by omega
  clear m1' h3
  generalize pkN m (10000001 - N) = M at *
  have HE := Lib.hid (fun w => pick_any more (101 - d) h1.1 h1.2 (by omega) (by omega) w)
  obtain ⟨g0, g1'⟩ := pkN_bounds more (n := 101 - d) (by omega)
  have g1 : pkN more (101 - d) ≤ 100 - d := by omega
  clear g1' h1
  generalize pkN more (101 - d) = G at *
  have s0 := loS_nonneg d0 n0
  have s1 := loS_le_hiS d0 d1 n0
  have s2 := hiS_limit d0 d1 n0 n1
  have HS1 := Lib.hid (fun w => spread_ok d N w d0 d1 n0 n1)
  have HS2 := Lib.hid (fun w => spread_ok 0 N w (by decide) (by decide) n0 n1)
  rw [loS_zero, hiS_zero] at HS2
  have HS3 := Lib.hid (fun w => spread_ok d (N + M) w d0 d1 (by omega) (by omega))
  have HS4 := Lib.hid (fun w => spread_ok (d + G) N w (by omega) (by omega) n0 n1)
  have q1 := loS_mono (n := N) (m := N + M) d0 (by omega)
  have q2 := hiS_mono (n := N) (m := N + M) d1 (by omega)
  have q3 := loS_wide (d := d) (e := d + G) (n := N) d0 (by omega) n0
  have q4 := hiS_wide (d := d) (e := d + G) (n := N) (by omega) (by omega) n0
  have HLO := Lib.hid (fun v => loS_le (d := d) (n := N) (x := v) d0)
  have HHI := Lib.hid (fun v => le_hiS (d := d) (n := N) (x := v) d1)
  generalize loS d N = lo at *
  generalize hiS d N = hi at *
  generalize loS d (N + M) = lo2 at *
  generalize hiS d (N + M) = hi2 at *
  generalize loS (d + G) N = lo3 at *
  generalize hiS (d + G) N = hi3 at *
  have HX1 := Lib.hid (fun w => pick_any x 20000000 h4.1 h4.2 (by decide) (by decide) w)
  have HX2 := Lib.hid (fun w => pick_any x (hi - lo + 1) h4.1 h4.2 (by omega) (by omega) w)
  obtain ⟨x0, x1⟩ := pkN_bounds x (n := 20000000) (by decide)
  obtain ⟨y0, y1⟩ := pkN_bounds x (n := hi - lo + 1) (by omega)
  clear h4
  generalize pkN x 20000000 = X at *
  generalize pkN x (hi - lo + 1) = Y at *
  go_enter Try.func5, Try.ntmps5
  go_wp2_with fail
  refine (sane_any W).mono ?_
  rintro e w1 ⟨rfl, hB⟩
  have HW := Lib.hid hB
  clear hB
  go_wp2_with fail
  refine (HD.out _).mono ?_
  rintro e w2 ⟨rfl, rfl⟩
  go_wp2_with fail
  refine (HN.out _).mono ?_
  rintro e w2 ⟨rfl, rfl⟩
  go_wp2_with fail
  refine (HM.out _).mono ?_
  rintro e w2 ⟨rfl, rfl⟩
  clear HD HN HM
  go_wp2_with fail
  refine (HS1.out _).mono ?_
  rintro e w2 ⟨rfl, hB⟩
  have HW := Lib.hid (belowVia hB HW.out)
  clear hB HS1
  go_wp2_with fail
  refine (HX1.out _).mono ?_
  rintro e w3 ⟨rfl, rfl⟩
  go_wp2_with fail
  refine (HX2.out _).mono ?_
  rintro e w3 ⟨rfl, rfl⟩
  clear HX1 HX2
  go_wp2_with fail
  have HA := Lib.hid (alloc_below w2 (.cells #[.int .i64 (lo - 1), .int .i64 lo, .int .i64 hi, .int .i64 (hi + 1), .int .i64 X, .int .i64 (lo + Y)] 3))
  have HI : Hid (NumsIn (w2.alloc (.cells #[.int .i64 (lo - 1), .int .i64 lo, .int .i64 hi, .int .i64 (hi + 1), .int .i64 X, .int .i64 (lo + Y)] 3)) (some ⟨w2.heap.size, 0, none⟩) [lo - 1, lo, hi, hi + 1, X, lo + Y]) := nums_new w2 [lo - 1, lo, hi, hi + 1, X, lo + Y] 3
  have HW := Lib.hid (belowVia HA.out HW.out)
  have HBD : Hid (∀ v ∈ [lo - 1, lo, hi, hi + 1, X, lo + Y], -1 ≤ v ∧ v ≤ 20000000) := by
    show ∀ v ∈ _, _
    intro v hv
    simp only [List.mem_cons, List.not_mem_nil, or_false] at hv
    rcases hv with rfl | rfl | rfl | rfl | rfl | rfl <;> omega
  obtain ⟨L, hL⟩ : ∃ L : List Int, L = [lo - 1, lo, hi, hi + 1, X, lo + Y] := ⟨_, rfl⟩
  have HLEN : Hid (L.length = 6) := by show _ = _; rw [hL]; rfl
  rw [← hL] at HI HBD
  clear hL HA
  generalize w2.alloc (.cells #[.int .i64 (lo - 1), .int .i64 lo, .int .i64 hi, .int .i64 (hi + 1), .int .i64 X, .int .i64 (lo + Y)] 3) = w3 at *
  generalize w2.heap.size = p at *
  go_loop [16] (fun i => ∃ k : Nat, k ≤ 6 ∧ i = .int .i64 k) (fun i => 6 - (intOf i).toNat)
  case atStart => exact ⟨0, by omega, rfl⟩
  case round =>
    obtain ⟨k, hk, rfl⟩ := hrel
    by_cases hlt : k < 6
    · have hlt' : (k : Int) < 6 := by omega
      have hkl : k < L.length := by have := HLEN.out; omega
      obtain ⟨g, o, hgo, hcell⟩ := HI.out.get hkl
      cases hgo
      have hv := HBD.out (L.getD k 0) (by rw [List.getD_eq_getElem?_getD, List.getElem?_eq_getElem hkl]; exact List.getElem_mem hkl)
      clear hkl
      generalize L.getD k 0 = v at *
      have hlo := HLO.out v
      have hhi := HHI.out v
      rw [Nat.zero_add] at hcell
      obtain ⟨v0, v1⟩ := hv
      by_cases hz : 0 ≤ v
      · obtain ⟨p1, hp1⟩ : ∃ p1, (1000 - d) * v = p1 := ⟨_, rfl⟩
        obtain ⟨p2, hp2⟩ : ∃ p2, (1000 + d) * v = p2 := ⟨_, rfl⟩
        have b1 := mul_small (a := 1000 - d) (v := v) (by omega) (by omega) hz (by omega)
        have b2 := mul_small (a := 1000 + d) (v := v) (by omega) (by omega) hz (by omega)
        rw [hp1] at b1 hhi
        rw [hp2] at b2 hlo
        obtain ⟨b10, b11⟩ := b1
        obtain ⟨b20, b21⟩ := b2
        by_cases ha : v ≤ hi
        · have ha2 := hhi.1 ha
          by_cases hb : lo ≤ v
          · have hb2 := hlo.1 hb
            clear hlo hhi
            go_wp2_with fail
            go_round
            case rel => exact ⟨k + 1, by omega, by go_num⟩
            case measure => simp [intOf]; omega
          · have hb1 : v < lo := by omega
            have hb2 : p2 + 1000 ≤ 1000 * N := by
              rcases Int.lt_or_le (1000 * N) (p2 + 1000) with e | e
              · exact absurd (hlo.2 e) hb
              · exact e
            clear hlo hhi hb
            go_wp2_with fail
            go_round
            case rel => exact ⟨k + 1, by omega, by go_num⟩
            case measure => simp [intOf]; omega
        · have ha1 : hi < v := by omega
          have ha2 : 1000 * N ≤ p1 - 1000 := by
            rcases Int.lt_or_le (p1 - 1000) (1000 * N) with e | e
            · exact absurd (hhi.2 e) ha
            · exact e
          have hb : lo ≤ v := by omega
          clear hlo hhi ha
          go_wp2_with fail
          go_round
          case rel => exact ⟨k + 1, by omega, by go_num⟩
          case measure => simp [intOf]; omega
      · have hz1 : v < 0 := by omega
        have hz2 : v < lo := by omega
        clear hlo hhi hz
        go_wp2_with fail
        go_round
        case rel => exact ⟨k + 1, by omega, by go_num⟩
        case measure => simp [intOf]; omega
    · obtain rfl : k = 6 := by omega
      clear hlt hk HLO HHI
      go_wp2_with fail
      refine (HS2.out _).mono ?_
      rintro e w4 ⟨rfl, hB⟩
      have HW := Lib.hid (belowVia hB HW.out)
      clear hB HS2
      go_wp2_with fail
      refine (HS3.out _).mono ?_
      rintro e w5 ⟨rfl, hB⟩
      have HW := Lib.hid (belowVia hB HW.out)
      clear hB HS3
      go_wp2_with fail
      refine (HE.out _).mono ?_
      rintro e w6 ⟨rfl, rfl⟩
      go_wp2_with fail
      refine (HS4.out _).mono ?_
      rintro e w6 ⟨rfl, hB⟩
      have HW := Lib.hid (belowVia hB HW.out)
      clear hB HS4
      go_wp2_with fail
      go_ret
      exact ⟨rfl, HW.out⟩
end Go.Proofs.Ytebhalcoemkomaa
