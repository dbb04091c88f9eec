/- The contract of shown. -/
import Derived.Test.YtiakjaglnjecgaaClkShown
namespace Go.Proofs.Ytiakjaglnjecgaa
open Go.RowKit Putlog

theorem info_win : (Try.prog.info? 58).map (·.size) = some 2 := by kernel_rfl
set_option maxRecDepth 100000 in
set_option maxHeartbeats 2000000 in
theorem shown_any (d l : Int) (rs : List Rd) (v : Value) (w : World) (h : RdsAt w v rs) (hv : validC d rs = true) (hl0 : 0 ≤ l) (hl1 : l ≤ 10000000) :
    Calls Try.prog 29 #[.agg #[.int .i64 d, v], .int .i64 l] w fun e w' => e = .returned (.agg #[.int .i64 (winF d l rs), .int .i64 (winG d l rs)]) ∧ Below w.heap.size w w' := by
  obtain ⟨⟨a, c, rfl, hc, hcb, hin⟩, hok⟩ := h
  obtain ⟨h0, h1, h12, hokr⟩ := validC_iff.1 hv
  have HI := Lib.hid hin
  have HK := Lib.hid (okR_mem (Int.le_refl _) hokr)
  obtain ⟨n, hn⟩ : ∃ n, n = rs.length := ⟨_, rfl⟩
  rw [← hn] at hc h12 ⊢
  have HN := Lib.hid hn
  have HA := alloc_below w (.cells #[.int .i64 d, .slice a n c] 24)
  have HW := Lib.hid HA
  have hnb : (n : Int) ≤ 12 := by omega
  clear hin hok hn HA hv hokr
  go_enter Try.func29, Try.ntmps29
  go_wp2_with fail
  have HX : Hid (∃ W3 : World, W3 = (((w.alloc (.cells #[.int .i64 d, .slice a n c] 24)).alloc (.cells #[.int .i64 0, .int .i64 0] 58)).alloc (.cells #[.int .i64 0, .int .i64 10000000] 58))) := ⟨_, rfl⟩
  have x1 := alloc_below w (.cells #[.int .i64 d, .slice a n c] 24)
  have y0 := cell_rowN w #[.int .i64 d, .slice a n c] 24 0 rfl
  have y1 := cell_rowN w #[.int .i64 d, .slice a n c] 24 1 rfl
  have z1 : (w.alloc (.cells #[.int .i64 d, .slice a n c] 24)).heap.size = w.heap.size + 1 := by simp
  generalize w.alloc (.cells #[.int .i64 d, .slice a n c] 24) = w1 at *
  have x2 := alloc_below w1 (.cells #[.int .i64 0, .int .i64 0] 58)
  have y2 := heap_alloc_new w1 (.cells #[.int .i64 0, .int .i64 0] 58)
  have z2 : (w1.alloc (.cells #[.int .i64 0, .int .i64 0] 58)).heap.size = w.heap.size + 1 + 1 := by rw [← z1]; simp
  rw [z1] at y2
  replace y0 := keptBelow x2 y0
  replace y1 := keptBelow x2 y1
  replace x1 := belowVia x2 x1
  generalize w1.alloc (.cells #[.int .i64 0, .int .i64 0] 58) = w2 at *
  have x3 := alloc_below w2 (.cells #[.int .i64 0, .int .i64 10000000] 58)
  have y3 := heap_alloc_new w2 (.cells #[.int .i64 0, .int .i64 10000000] 58)
  rw [z2] at y3
  have HY0 := Lib.hid (keptBelow x3 y0)
  have HY1 := Lib.hid (keptBelow x3 y1)
  have HY2 := Lib.hid (heap_below x3 y2)
  have HY3 := Lib.hid y3
  have HX1 := Lib.hid (belowVia x3 x1)
  generalize w2.alloc (.cells #[.int .i64 0, .int .i64 10000000] 58) = w3 at *
  clear x1 x2 x3 y0 y1 y2 y3 z1 z2 HX HW
  have p1 : w.heap.size ≠ w.heap.size + 1 + 1 := by omega
  have p2 : w.heap.size + 1 ≠ w.heap.size + 1 + 1 := by omega
  have p3 : w.heap.size ≠ w.heap.size + 1 := by omega
  have P3 := Lib.hid (show w.heap.size ≤ w.heap.size + 1 ∧ w.heap.size ≤ w.heap.size + 1 + 1 by omega)
  go_loopw [12] (fun i wr => ∃ k : Nat, k ≤ n ∧ i = .int .i64 k ∧ wr.heap[w.heap.size + 1 + 1]? = some (.cells #[.int .i64 (winF d l (rs.take k)), .int .i64 (winG d l (rs.take k))] 58 (0, 0)) ∧ Wrote (w.heap.size + 1 + 1) w3 wr) (fun i _ => n - (intOf i).toNat)
  case atStart => exact ⟨0, Nat.zero_le _, rfl, HY3.out, Wrote.refl _ _⟩
  case round =>
    obtain ⟨k, hk, rfl, hh, hW⟩ := hrel
    have HH := Lib.hid hh
    have HWR := Lib.hid hW
    clear hh hW
    by_cases hlt : k < n
    · have hlt' : (k : Int) < n := by omega
      have hkl : k < rs.length := by have := HN.out; omega
      obtain ⟨g, o, rfl, c0, c1, c2⟩ := HI.out.get hkl
      have hgn : g ≠ w.heap.size + 1 + 1 := by have := lt_of_cell c0; omega
      replace c0 := HWR.out.cell (keptBelow HX1.out c0) hgn
      replace c1 := HWR.out.cell (keptBelow HX1.out c1) hgn
      replace c2 := HWR.out.cell (keptBelow HX1.out c2) hgn
      have d0 := HWR.out.cell HY0.out p1
      have dlt := lt_of_cell d0
      have b1 := (HK.out _ (rds_mem hkl))
      have HT := Lib.hid (rds_take hkl)
      have HSF := Lib.hid (winF_snoc d l (rs.take k) (rs.getD k default))
      have HSG := Lib.hid (winG_snoc d l (rs.take k) (rs.getD k default))
      rw [← HT.out] at HSF HSG
      clear hkl HT
      generalize winF d l (rs.take k) = f at *
      generalize winG d l (rs.take k) = gg at *
      generalize rs.getD k default = r at *
      obtain ⟨x, y, z⟩ := r
      dsimp only at c0 c1 c2 b1
      have HBD := Lib.hid (fun w1 h => bound_any (w.heap.size + 1 + 1) f gg x y z d l w1 h h0 h1 hl0 hl1 (by omega) (by omega) (by omega) (by omega) (by omega) (by omega))
      go_wp2_with fail
      refine (HBD.out _ (heap_below (alloc_below _ _) HH.out)).mono ?_
      rintro e w4 ⟨rfl, hh, hW⟩
      go_wp2_with fail
      go_roundw
      case rel => exact ⟨k + 1, by omega, by go_num, by rw [HSF.out, HSG.out]; exact hh, (HWR.out.trans (Wrote.of_below (alloc_below _ _))).trans hW⟩
      case measure => simp [intOf]; omega
    · obtain rfl : k = n := by omega
      have d0 := (cell_of_row wr _ 0 _ _ _ HH.out).trans (by rfl : _ = some _)
      have d1 := (cell_of_row wr _ 1 _ _ _ HH.out).trans (by rfl : _ = some _)
      have hr := HWR.out.heap HY2.out p2
      have q0 := (cell_of_row wr _ 0 _ _ _ hr).trans (by rfl : _ = some _)
      have q1 := (cell_of_row wr _ 1 _ _ _ hr).trans (by rfl : _ = some _)
      have f0 := frozen_of_row wr _ 0 _ _ hr
      have f1 := frozen_of_row wr _ 1 _ _ hr
      have HR := Lib.hid hr
      clear hr
      go_wp2_with fail
      refine bodyPost_ret (results_cell_row rfl _ _ (w.heap.size + 1) _ _ _ _ rfl (pair_set HR.out _ _) Try.underlying58 rfl info_win) rfl ⟨?_, ?_⟩
      · rw [List.take_of_length_le (by have := HN.out; omega)]
      · exact (((HWR.out.below HX1.out HX1.out.size P3.out.2).setCell P3.out.1 _).setCell P3.out.1 _)
end Go.Proofs.Ytiakjaglnjecgaa
