/- The contract of the function that groups returns: what it yields. -/
import Derived.Lib.Hide
import Derived.RangeFuncNested
import Derived.RangeFuncBound
import Derived.RangeFuncCalls
import Derived.RangeFuncLeaves
import Derived.RangeFuncOne
import Derived.Shelf.Abstract
import Derived.Shelf.RegionOpen
import Derived.WalkKit
import Derived.OwnWalkIn
import Derived.TacticsInMore
import Derived.LoopNIn
import Derived.LoopIn
import Derived.Test.YtlnbipldbbdnmaaDoorWireLeaf
namespace Go.Proofs.YtlnbipldbbdnmaaDoor
open Go.RowKit Go.Shelf Putlog
attribute [local go_sem] Oper.semAt_some

set_option maxRecDepth 100000 in
set_option maxHeartbeats 1000000 in
theorem groups1_stops (F : Fence) (n : Nat) (hg : F.fn 28) (hro : F.round = none) (hn : 1 ≤ n) (Bz : Nat) (z : Nat) (hz : z ≤ 9223372036854775806) (w : World)
    (hlt : Bz < w.heap.size) (hc : w.cell? ⟨Bz, 0, none⟩ = some (.int .u64 (z : Int))) :
    SeqStops F n Tryd.prog 28 #[.pointer (some ⟨Bz, 0, none⟩)] (fun v : Int => Value.int .u8 v) (fun xs => xs = lebI z) (fun pre => pre <+: lebI z) 9 w := fun l J Jx W hW _ _ hY h0 => by
  have hcW : W.cell? ⟨Bz, 0, none⟩ = some (.int .u64 (z : Int)) := (hW.cell (p := ⟨Bz, 0, none⟩) hlt).trans hc
  refine callsIn_of_wp Tryd.func28 rfl hg ?_ hro
  simp only [Tryd.ntmps28, List.size_toArray, List.length_cons, List.length_nil, Nat.reduceAdd, Nat.reduceSub, Array.replicate_succ, Array.replicate_zero, List.push_toArray, List.append_toArray, List.nil_append, List.cons_append]
  have hlen := leb_len_le 8 z (by omega)
  rw [← lebI_len] at hlen
  clear hc
  gi_wp2
  clear hcW
  gi_loopw [3] (fun p wr => ∃ (pre : List Int) (r : Nat), p = .int .u64 (r : Int) ∧ lebI z = pre ++ lebI r ∧ (r : Int) ≤ 9223372036854775806 ∧ J pre wr)
    (fun p wr => (intOf p).toNat)
  case atStart => exact ⟨[], z, rfl, rfl, by omega, h0⟩
  case round =>
    obtain ⟨pre, r, rfl, hx, hr, hJs⟩ := hrel
    have hpre : pre.length < 9 := by
      have := lebI_len r; have := leb_len_pos r; rw [hx, List.length_append] at hlen; omega
    clear hlen hz
    by_cases hlt0 : r < 128
    · rw [lebI_lt hlt0] at hx
      obtain ⟨fn, tmps, assign, body, hy, hR⟩ := hY pre (r : Int) wr hJs hpre
      have hlt : (r : Int) < 128 := by omega
      clear hlt0
      have HX := Lib.hid hx
      clear hx hpre
      have hr0 : 0 ≤ (r : Int) := by omega
      gi_wp2
      refine hR.mono ?_
      rintro e W1 (⟨rfl, hJ1, _⟩ | ⟨rfl, hx1⟩)
      · gi_wp2
        go_end0
        exact ⟨⟨_, rfl⟩, .inl ⟨_, HX.out.symm, hJ1⟩⟩
      · gi_wp2
        go_end0
        exact ⟨⟨_, rfl⟩, .inr ⟨_, by rw [HX.out]; exact List.prefix_refl _, hx1⟩⟩
    · rw [lebI_ge (z := r) (by omega)] at hx
      obtain ⟨fn, tmps, assign, body, hy, hR⟩ := hY pre ((r : Int) % 128 + 128) wr hJs hpre
      have hlt : 128 ≤ (r : Int) := by omega
      clear hlt0
      have HX := Lib.hid hx
      clear hx hpre
      have hr0 : 0 ≤ (r : Int) := by omega
      gi_wp2
      refine hR.mono ?_
      rintro e W1 (⟨rfl, hJ1, _⟩ | ⟨rfl, hx1⟩)
      · gi_wp2
        go_roundw
        case rel => exact ⟨pre ++ [(r : Int) % 128 + 128], r / 128, by go_num, by rw [HX.out]; simp, by omega, hJ1⟩
        case measure => simp [intOf]; omega
      · gi_wp2
        refine bodyPost_ret (results_none rfl _ _ _) rfl ?_
        exact ⟨⟨_, rfl⟩, .inr ⟨_, by rw [HX.out]; exact ⟨lebI (r / 128), by simp⟩, hx1⟩⟩
end Go.Proofs.YtlnbipldbbdnmaaDoor
