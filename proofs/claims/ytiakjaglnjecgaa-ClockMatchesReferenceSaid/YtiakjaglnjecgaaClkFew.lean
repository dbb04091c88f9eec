/- The law's own helper few: a clock's first 13 readings. -/
import Derived.StillTailTactics
import Derived.Test.YtiakjaglnjecgaaClkMade
namespace Go.Proofs.Ytiakjaglnjecgaa
open Go.RowKit Putlog

theorem rds_first {w : World} {a : Option Addr} {l : List Rd} (m : Nat) (h : RdsIn w a l) : RdsIn w a (l.take m) := by
  rcases h with h | ⟨g, o, h1, h2⟩
  · exact .inl (by rw [h]; simp)
  · refine .inr ⟨g, o, h1, fun j hj => ?_⟩
    have hj2 : j < l.length ∧ j < m := by rw [List.length_take] at hj; omega
    have e : (l.take m).getD j default = l.getD j default := by
      rw [List.getD_eq_getElem?_getD, List.getD_eq_getElem?_getD, List.getElem?_take_of_lt hj2.2]
    rw [e]; exact h2 j hj2.1
set_option maxRecDepth 100000 in
set_option maxHeartbeats 2000000 in
theorem few_any (d : Int) (rs : List Rd) (v : Value) (w : World) (h : RdsAt w v rs) :
    Calls Try.prog 9 #[.agg #[.int .i64 d, v]] w fun e w' => ∃ x, e = .returned (.agg #[.int .i64 d, x]) ∧ RdsAt w' x (rs.take 13) ∧ Below w.heap.size w w' := by
  obtain ⟨⟨a, c, rfl, hc, hcb, hin⟩, hok⟩ := h
  obtain ⟨n, hn⟩ : ∃ n, n = rs.length := ⟨_, rfl⟩
  have HI := Lib.hid (fun w' (hB : Below w.heap.size w w') => rds_first 13 (hin.via hB))
  have HO : Hid (RdsOk (rs.take 13)) := fun r hr => hok r (List.mem_of_mem_take hr)
  have HL : Hid ((rs.take 13).length = min n 13) := by show _ = _; rw [List.length_take, hn]; omega
  rw [← hn] at hc ⊢
  obtain ⟨m, hm⟩ : ∃ m : Nat, m = min n 13 := ⟨_, rfl⟩
  rw [← hm] at HL
  have HC : Hid (m ≤ c) := by show _ ≤ _; omega
  have hmi : min (n : Int) 13 = m := by omega
  have hmi2 : (if (13 : Int) < (n : Int) then (13 : Int) else (n : Int)) = (m : Int) := by split <;> omega
  have hm1 : m ≤ n := by omega
  have hm2 : (m : Int) ≤ n := by omega
  have hm3 : (m : Int) ≤ c := by omega
  have hnb : (n : Int) ≤ 9223372036854775807 := by omega
  have HCB := Lib.hid hcb
  have hm' : min n 13 = m := hm.symm
  clear hin hok hn hm
  go_enter Try.func9, Try.ntmps9
  go_wp2_with fail
  have hB1 := alloc_below w (.cells #[.int .i64 d, .slice a n c] 24)
  have hB2 := alloc_below (w.alloc (.cells #[.int .i64 d, .slice a n c] 24)) (.cells #[.int .i64 0, .slice none 0 0] 24)
  have HB := Lib.hid (belowVia hB2 hB1)
  have hX := heap_below hB2 (heap_alloc_new w (.cells #[.int .i64 d, .slice a n c] 24))
  have hY := heap_alloc_new (w.alloc (.cells #[.int .i64 d, .slice a n c] 24)) (.cells #[.int .i64 0, .slice none 0 0] 24)
  rw [show (w.alloc (.cells #[.int .i64 d, .slice a n c] 24)).heap.size = w.heap.size + 1 by simp] at hY
  have HY := Lib.hid hY
  clear hB1 hB2 hY
  generalize (w.alloc (.cells #[.int .i64 d, .slice a n c] 24)).alloc (.cells #[.int .i64 0, .slice none 0 0] 24) = wa at *
  have b0 := (cell_of_row _ _ 0 _ _ _ hX).trans (by rfl : _ = some (.int .i64 d))
  have b1 := (cell_of_row _ _ 1 _ _ _ hX).trans (by rfl : _ = some (.slice a n c))
  clear hX
  go_still_tail 10, (by kernel_rfl)
  try refine wpStill_nil ?_
  have HBB := Lib.hid (belowVia (Below.refl wa.heap.size wa).drew HB.out)
  have HYY := Lib.hid (heap_below (Below.refl wa.heap.size wa).drew HY.out)
  change wpList _ _ _ _ _ wa.drew
  generalize wa.drew = wb at *
  have e0 := (cell_of_row _ _ 0 _ _ _ HYY.out).trans (by rfl : _ = some (.int .i64 0))
  have e1 := (cell_of_row _ _ 1 _ _ _ HYY.out).trans (by rfl : _ = some (.slice none 0 0))
  have f0 := frozen_of_row _ _ 0 _ _ HYY.out
  have f1 := frozen_of_row _ _ 1 _ _ HYY.out
  clear b0 b1
  go_wp2_with fail
  have HZ : Hid (Below w.heap.size w ((wb.setCell ⟨w.heap.size + 1, 0, none⟩ (.int .i64 d)).setCell ⟨w.heap.size + 1, 1, none⟩ (.slice a m c))) := (HBB.out.setCell (by show w.heap.size ≤ w.heap.size + 1; omega) _).setCell (by show w.heap.size ≤ w.heap.size + 1; omega) _
  refine bodyPost_ret (results_cell_row rfl _ _ (w.heap.size + 1) _ _ _ _ rfl (pair_set HYY.out _ _) Try.underlying24 rfl info_clock) rfl ⟨.slice a m c, rfl, ⟨⟨a, c, by rw [HL.out], by rw [HL.out]; exact HC.out, HCB.out, HI.out _ HZ.out⟩, HO.out⟩, HZ.out⟩
end Go.Proofs.Ytiakjaglnjecgaa
