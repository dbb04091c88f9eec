/- The contract of steps: the greatest common divisor. -/
import Derived.Test.YtliligehofjegaaPlnTurn
namespace Go.Proofs.Ytliligehofjegaa
open Go.RowKit Pln

theorem gcd_step (x y : Int) : Int.gcd y (x.tmod y) = Int.gcd x y := by
  unfold Int.gcd
  rw [Int.natAbs_tmod, Nat.gcd_comm x.natAbs, Nat.gcd_rec y.natAbs x.natAbs, Nat.gcd_comm]
theorem tmod_lt {x y : Int} (h : y ≠ 0) : (x.tmod y).natAbs < y.natAbs := by
  rw [Int.natAbs_tmod]; exact Nat.mod_lt _ (by omega)
set_option maxRecDepth 100000 in
set_option maxHeartbeats 2000000 in
theorem steps_w (a b : Pt) (ha : Sml a) (hb : Sml b) (w : World) :
    Calls Try.prog 46 #[ev a b] w fun e w' => e = .returned (.int .i64 (stp a b)) ∧ Below w.heap.size w w' := by
  obtain ⟨a1, a2⟩ := a; obtain ⟨b1, b2⟩ := b
  obtain ⟨h1, h2, h3, h4⟩ := ha; obtain ⟨k1, k2, k3, k4⟩ := hb
  dsimp only at h1 h2 h3 h4 k1 k2 k3 k4
  unfold ev
  dsimp only
  obtain ⟨G, hG⟩ : ∃ G, stp (a1, a2) (b1, b2) = G := ⟨_, rfl⟩
  have HG : Hid ((Int.gcd (b1 - a1) (b2 - a2) : Int) = G) := Lib.hid (by rw [← hG]; rfl)
  rw [hG]
  clear hG
  have q1 : IntKind.i64.wrap (b1 - a1) = b1 - a1 := IntWalk.i64_in _ (by omega)
  have q2 : IntKind.i64.wrap (b2 - a2) = b2 - a2 := IntWalk.i64_in _ (by omega)
  have c0 := cell_rowN w #[.int .i64 a1, .int .i64 a2, .int .i64 b1, .int .i64 b2] 71 0 rfl
  have c1 := cell_rowN w #[.int .i64 a1, .int .i64 a2, .int .i64 b1, .int .i64 b2] 71 1 rfl
  have c2 := cell_rowN w #[.int .i64 a1, .int .i64 a2, .int .i64 b1, .int .i64 b2] 71 2 rfl
  have c3 := cell_rowN w #[.int .i64 a1, .int .i64 a2, .int .i64 b1, .int .i64 b2] 71 3 rfl
  have hB := alloc_below w (.cells #[.int .i64 a1, .int .i64 a2, .int .i64 b1, .int .i64 b2] 71)
  have HB := Lib.hid hB
  clear hB
  go_enter Try.func46, Try.ntmps46
  go_wp2_with fail
  go_quiet (fail)
  go_wp2_with fail
  clear c0 c1 c2 c3 q1 q2
  go_loopw [3, 4] (fun n r wr => ∃ x y : Int, n = .int .i64 x ∧ r = .int .i64 y ∧ -81 ≤ x ∧ x ≤ 81 ∧ -81 ≤ y ∧ y ≤ 81 ∧ (Int.gcd x y : Int) = G ∧ Below w.heap.size w wr) (fun _ r _ => (intOf r).natAbs)
  case atStart => exact ⟨_, _, rfl, rfl, by omega, by omega, by omega, by omega, HG.out, below_drewN HB.out _⟩
  case round =>
    obtain ⟨x, y, rfl, rfl, x0, x1, y0, y1, hg, hB⟩ := hrel
    have HGG := Lib.hid hg
    clear hg
    by_cases hy : y = 0
    · subst hy
      have HX : Hid ((if x < -x then -x else x) = G) := Lib.hid (by rw [← HGG.out]; unfold Int.gcd; simp; split <;> omega)
      go_wp2_with fail
      all_goals
        go_ret
        exact ⟨ret_int (by rw [← HX.out]; split <;> omega), hB⟩
    · have hm := tmod_lt (x := x) hy
      have hgs := gcd_step x y
      obtain ⟨z, hz⟩ : ∃ z, z = x.tmod y := ⟨_, rfl⟩
      rw [← hz] at hm hgs
      have HGS := Lib.hid hgs
      have HM := Lib.hid hm
      have hz1 : -81 ≤ z := by omega
      have hz2 : z ≤ 81 := by omega
      have hzz : x.tmod y = z := hz.symm
      have hy0 : ((y : Int) != 0) = true := by simpa using hy
      clear hm hgs hz
      go_wp2_with fail
      go_quiet (fail)
      go_wp2_with fail
      go_roundw
      case rel => exact ⟨y, z, rfl, rfl, y0, y1, hz1, hz2, by rw [HGS.out]; exact HGG.out, below_drewN hB _⟩
      case measure => have := HM.out; simp [intOf]; omega
end Go.Proofs.Ytliligehofjegaa
