/- Contracts of the leaf functions of layer 1: fold, unfold, pick. -/
import Derived.Test.YtlnbipldbbdnmaaDoorRows
import Derived.WalkKit
import Derived.WalkSpells
import Derived.WalkLawsBesides
import Derived.Test.YtlnbipldbbdnmaaDoorWirePure
namespace Go.Proofs.YtlnbipldbbdnmaaDoor
open Go.RowKit
open Putlog

theorem ret_int {k : IntKind} {a b : Int} (h : a = b) : Ending.returned (.int k a) = .returned (.int k b) := by rw [h]

set_option maxHeartbeats 400000 in
theorem fold_any (n : Int) (w : World) (h0 : -4611686018427387903 ≤ n) (h2 : n ≤ 4611686018427387903) :
    Calls Tryd.prog 24 #[.int .i64 n] w fun e w' => e = .returned (.int .u64 (zig n : Nat)) ∧ w = w' := by
  by_cases h1 : n < 0
  · go_enter Tryd.func24, Tryd.ntmps24
    go_wp2
    go_ret
    exact ⟨ret_int (show 2 * -n - 1 = _ by unfold zig; rw [if_pos h1]; omega), rfl⟩
  · go_enter Tryd.func24, Tryd.ntmps24
    go_wp2
    go_ret
    exact ⟨ret_int (show 2 * n = _ by unfold zig; rw [if_neg (by omega)]; omega), rfl⟩
set_option maxHeartbeats 400000 in
theorem unfold_any (z : Int) (w : World) (h1 : 0 ≤ z) (h2 : z ≤ 9223372036854775806) :
    Calls Tryd.prog 26 #[.int .u64 z] w fun e w' => e = .returned (.int .i64 (zag z.toNat)) ∧ w = w' := by
  by_cases h : z % 2 = 1
  · have h3 : (z % 2 == 1) = true := by simp [h]
    go_enter Tryd.func26, Tryd.ntmps26
    go_wp2
    go_ret
    exact ⟨ret_int (show -(z / 2) - 1 = _ by unfold zag; rw [if_pos (by omega)]; omega), rfl⟩
  · have h3 : (z % 2 == 1) = false := by simp [h]
    go_enter Tryd.func26, Tryd.ntmps26
    go_wp2
    go_ret
    exact ⟨ret_int (show (z / 2) = _ by unfold zag; rw [if_neg (by omega)]; omega), rfl⟩
set_option maxHeartbeats 400000 in
theorem pick_any (c n : Int) (w : World) (h0 : -9223372036854775808 ≤ c) (h2 : c ≤ 9223372036854775807) (h3 : 1 ≤ n) (h4 : n ≤ 9223372036854775807) :
    Calls Tryd.prog 14 #[.int .i64 c, .int .i64 n] w fun e w' => e = .returned (.int .i64 (pickZ c n)) ∧ w = w' := by
  by_cases h1 : c < 0
  · go_enter Tryd.func14, Tryd.ntmps14
    go_wp2
    go_ret
    exact ⟨ret_int (show -(c + 1).tmod n = _ by unfold pickZ; rw [if_pos h1, ← Int.neg_tmod, Int.tmod_eq_emod_of_nonneg (by omega)]), rfl⟩
  · go_enter Tryd.func14, Tryd.ntmps14
    go_wp2
    go_ret
    exact ⟨ret_int (show c % n = _ by unfold pickZ; rw [if_neg (by omega)]), rfl⟩
end Go.Proofs.YtlnbipldbbdnmaaDoor
