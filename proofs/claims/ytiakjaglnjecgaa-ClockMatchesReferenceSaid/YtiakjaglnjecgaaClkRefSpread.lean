/- The reference's Fits and Spread. -/
import Derived.Test.YtiakjaglnjecgaaClkUp
namespace Go.Proofs.Ytiakjaglnjecgaa
open Go.RowKit Putlog

theorem mul_bound {a x : Int} {m : Int} (h0 : 0 ≤ a) (h1 : a ≤ m) (x0 : 0 ≤ x) : 0 ≤ a * x ∧ a * x ≤ m * x := ⟨Int.mul_nonneg h0 x0, Int.mul_le_mul_of_nonneg_right h1 x0⟩
set_option maxRecDepth 100000 in
set_option maxHeartbeats 1000000 in
theorem rfits_any (d x n : Int) (w : World) (h0 : 0 ≤ d) (h1 : d ≤ 100) (x0 : 0 ≤ x) (x1 : x ≤ 30000000) (n0 : 0 ≤ n) (n1 : n ≤ 10000000) :
    Calls Try.prog 23 #[.int .i64 d, .int .i64 x, .int .i64 n] w fun e w' => e = .returned (.bool (fitsB d x n)) ∧ w = w' := by
  obtain ⟨a0, a1⟩ := mul_bound (a := 1000 - d) (m := 1000) (x := x) (by omega) (by omega) x0
  obtain ⟨b0, b1⟩ := mul_bound (a := 1000 + d) (m := 1100) (x := x) (by omega) (by omega) x0
  have HF : Hid (fitsB d x n = (decide ((1000 - d) * x - 1000 < 1000 * n) && decide (1000 * n < (1000 + d) * x + 1000))) := rfl
  obtain ⟨A, hA⟩ : ∃ A, A = (1000 - d) * x := ⟨_, rfl⟩
  obtain ⟨B, hB⟩ : ∃ B, B = (1000 + d) * x := ⟨_, rfl⟩
  rw [← hA] at a0 a1 HF
  rw [← hB] at b0 b1 HF
  have e1 : IntKind.i64.wrap ((1000 - d) * x) = A := by rw [← hA, IntKind.wrap_i64]; omega
  have e2 : IntKind.i64.wrap ((1000 + d) * x) = B := by rw [← hB, IntKind.wrap_i64]; omega
  clear hA hB
  by_cases k1 : A - 1000 < 1000 * n
  · by_cases k2 : 1000 * n < B + 1000
    · go_enter Try.func23, Try.ntmps23
      go_wp2_with fail
      go_ret
      exact ⟨ret_bool (by rw [HF.out]; simp [k1, k2]), rfl⟩
    · go_enter Try.func23, Try.ntmps23
      go_wp2_with fail
      go_ret
      exact ⟨ret_bool (by rw [HF.out]; simp [k1, k2]), rfl⟩
  · go_enter Try.func23, Try.ntmps23
    go_wp2_with fail
    go_ret
    exact ⟨ret_bool (by rw [HF.out, decide_eq_false (by omega)]; rfl), rfl⟩
theorem tdiv_loS {d n : Int} (h0 : 0 ≤ d) (h1 : d ≤ 100) (n0 : 0 ≤ n) (n1 : n ≤ 10000000) : ∃ q, (1000 * (n - 1)).tdiv (1000 + d) = q ∧ -1 ≤ q ∧ q ≤ loS d n ∧ q ≤ 10000000 := by
  by_cases h : n = 0
  · subst h
    have e : ((1000 * (0 - 1) : Int)).tdiv (1000 + d) = -((1000 : Int).tdiv (1000 + d)) := by rw [show (1000 * (0 - 1) : Int) = -1000 by decide, Int.neg_tdiv]
    have h2 : (1000 : Int).tdiv (1000 + d) = 1000 / (1000 + d) := Int.tdiv_eq_ediv_of_nonneg (by omega)
    have h3 : 0 ≤ (1000 : Int) / (1000 + d) := Int.ediv_nonneg (by omega) (by omega)
    have h4 : (1000 : Int) / (1000 + d) < 2 := Int.ediv_lt_of_lt_mul (by omega) (by omega)
    have h5 := loS_nonneg (n := 0) h0 (Int.le_refl _)
    exact ⟨_, rfl, by omega, by omega, by omega⟩
  · have h2 : (1000 * (n - 1)).tdiv (1000 + d) = 1000 * (n - 1) / (1000 + d) := Int.tdiv_eq_ediv_of_nonneg (by omega)
    have h3 : 0 ≤ 1000 * (n - 1) / (1000 + d) := Int.ediv_nonneg (by omega) (by omega)
    have h4 : 1000 * (n - 1) / (1000 + d) ≤ loS d n := Int.ediv_le_ediv (by omega) (by omega)
    have h5 := loS_upto h0 n0
    exact ⟨_, h2, by omega, by omega, by omega⟩
theorem tdiv_hiS {d n : Int} (h0 : 0 ≤ d) (h1 : d ≤ 100) (n0 : 0 ≤ n) (n1 : n ≤ 10000000) : ∃ q, 1000 * n / (1000 - d) = q ∧ 0 ≤ q ∧ q ≤ hiS d n ∧ q ≤ 20000001 := by
  have h3 : 0 ≤ 1000 * n / (1000 - d) := Int.ediv_nonneg (by omega) (by omega)
  have h4 : 1000 * n / (1000 - d) ≤ hiS d n := Int.ediv_le_ediv (by omega) (by omega)
  have h5 := hiS_upto (d := d) h1 n0
  exact ⟨_, rfl, by omega, by omega, by omega⟩
set_option maxRecDepth 100000 in
set_option maxHeartbeats 1000000 in
theorem rspread_ok (d n : Int) (w : World) (h0 : 0 ≤ d) (h1 : d ≤ 100) (h2 : 0 ≤ n) (h3 : n ≤ 10000000) :
    Calls Try.prog 6 #[.int .i64 d, .int .i64 n] w fun e w' => e = .returned (.tuple #[.int .i64 (loS d n), .int .i64 (hiS d n)]) ∧ w = w' := by
  have HFT := Lib.hid (fun x (x0 : 0 ≤ x) (x1 : x ≤ 30000000) w => rfits_any d x n w h0 h1 x0 x1 h2 h3)
  have HFB := Lib.hid (fun x => fitsB_iff (x := x) (n := n) h0 h1)
  have l0 := loS_nonneg h0 h2
  have l1 := loS_le_hiS h0 h1 h2
  have l2 := hiS_upto (d := d) h1 h2
  obtain ⟨q, hq, q0, q1, q2⟩ := tdiv_loS h0 h1 h2 h3
  obtain ⟨p, hp, p0, p1, p2⟩ := tdiv_hiS h0 h1 h2 h3
  generalize loS d n = lo at *
  generalize hiS d n = hi at *
  have e1 : 0 ≤ 1000 * n := by omega
  have e2 : 0 < 1000 - d := by omega
  go_enter Try.func6, Try.ntmps6
  go_wp2_with fail
  all_goals
    clear hq
    go_loop [6] (fun i => ∃ x : Int, 0 ≤ x ∧ x ≤ lo ∧ i = .int .i64 x) (fun i => (lo - intOf i).toNat)
    case atStart => exact ⟨_, by omega, by omega, rfl⟩
    case round =>
      obtain ⟨x, x0, x1, rfl⟩ := hrel
      by_cases hx : x = lo
      · have HX : Hid (fitsB d x n = true) := (HFB.out x).2 (by omega)
        subst hx
        go_wp2_with fail
        refine (HFT.out x x0 (by omega) _).mono ?_
        rintro e w1 ⟨rfl, rfl⟩
        rw [HX.out]
        go_wp2_with fail
        all_goals
          go_loop [7] (fun i => ∃ y : Int, x ≤ y ∧ y ≤ hi ∧ i = .int .i64 y) (fun i => (hi - intOf i).toNat)
          case atStart => exact ⟨_, by omega, by omega, rfl⟩
          case round =>
            obtain ⟨y, y0, y1, rfl⟩ := hrel
            by_cases hy : y = hi
            · have HY : Hid (fitsB d (y + 1) n = false) := by
                have := HFB.out (y + 1)
                cases h : fitsB d (y + 1) n with
                | false => rfl
                | true => have := this.1 h; omega
              subst hy
              go_wp2_with fail
              refine (HFT.out (y + 1) (by omega) (by omega) _).mono ?_
              rintro e w1 ⟨rfl, rfl⟩
              rw [HY.out]
              go_wp2_with fail
              go_ret2
              exact ⟨rfl, rfl⟩
            · have HY : Hid (fitsB d (y + 1) n = true) := (HFB.out (y + 1)).2 (by omega)
              go_wp2_with fail
              refine (HFT.out (y + 1) (by omega) (by omega) _).mono ?_
              rintro e w1 ⟨rfl, rfl⟩
              rw [HY.out]
              go_wp2_with fail
              go_round
              case rel => exact ⟨y + 1, by omega, by omega, by go_num⟩
              case measure => simp [intOf]; omega
      · have HX : Hid (fitsB d x n = false) := by
          have := HFB.out x
          cases h : fitsB d x n with
          | false => rfl
          | true => have := this.1 h; omega
        go_wp2_with fail
        refine (HFT.out x x0 (by omega) _).mono ?_
        rintro e w1 ⟨rfl, rfl⟩
        rw [HX.out]
        go_wp2_with fail
        go_round
        case rel => exact ⟨x + 1, by omega, by omega, by go_num⟩
        case measure => simp [intOf]; omega
set_option maxRecDepth 100000 in
set_option maxHeartbeats 1000000 in
theorem rspread_no (d n : Int) (w : World) (h : ¬ (0 ≤ d ∧ d ≤ 100 ∧ 0 ≤ n ∧ n ≤ 10000000)) :
    Calls Try.prog 6 #[.int .i64 d, .int .i64 n] w fun e w' => e = .returned (.tuple #[.int .i64 0, .int .i64 0]) ∧ w = w' := by
  rcases (show d < 0 ∨ (0 ≤ d ∧ 100 < d) ∨ (0 ≤ d ∧ d ≤ 100 ∧ n < 0) ∨ (0 ≤ d ∧ d ≤ 100 ∧ 0 ≤ n ∧ 10000000 < n) by omega) with k | k | k | k
  all_goals
    clear h
    go_enter Try.func6, Try.ntmps6
    go_wp2_with fail
    go_ret2
    exact ⟨rfl, rfl⟩
end Go.Proofs.Ytiakjaglnjecgaa
