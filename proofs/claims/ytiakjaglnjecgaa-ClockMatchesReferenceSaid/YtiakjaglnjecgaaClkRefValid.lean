/- The reference's Valid. -/
import Derived.BigQuiet
import Derived.Test.YtiakjaglnjecgaaClkValid
namespace Go.Proofs.Ytiakjaglnjecgaa
open Go.RowKit Putlog

theorem rowOk_up {e x y z : Int} (he : -1 ≤ e) (h : x < 0 ∨ 10000000 < x ∨ y < 0 ∨ z < y ∨ 10000000 < z ∨ x ≤ e) : rowOk e (x, y, z) = false := rowOk_no (by omega)
theorem box3 {w : World} {p : Nat} {x y z : Int} {t : TypeId} (h : w.heap[p]? = some (.cells #[.int .i64 x, .int .i64 y, .int .i64 z] t (0, 0))) : w.cell? ⟨p, 0, none⟩ = some (.int .i64 x) ∧ w.cell? ⟨p, 1, none⟩ = some (.int .i64 y) ∧ w.cell? ⟨p, 2, none⟩ = some (.int .i64 z) :=
  ⟨(cell_of_row _ _ 0 _ _ _ h).trans rfl, (cell_of_row _ _ 1 _ _ _ h).trans rfl, (cell_of_row _ _ 2 _ _ _ h).trans rfl⟩
set_option maxRecDepth 100000 in
set_option maxHeartbeats 4000000 in
theorem rvalid_any (d : Int) (rs : List Rd) (v : Value) (w : World) (h : RdsAt w v rs) :
    Calls Try.prog 12 #[.agg #[.int .i64 d, v]] w fun e w' => e = .returned (.bool (validC d rs)) ∧ Below w.heap.size w w' := by
  obtain ⟨⟨a, c, rfl, hc, hcb, hin⟩, hok⟩ := h
  have HI := Lib.hid (hin.via (alloc_below w (.cells #[.int .i64 d, .slice a rs.length c] 24)))
  have HX := Lib.hid (heap_alloc_new w (.cells #[.int .i64 d, .slice a rs.length c] 24))
  have HW := Lib.hid (alloc_below w (.cells #[.int .i64 d, .slice a rs.length c] 24))
  have HK := Lib.hid hok
  obtain ⟨n, hn⟩ : ∃ n, n = rs.length := ⟨_, rfl⟩
  rw [← hn] at hc HI HX HW ⊢
  have HN := Lib.hid hn
  have hnb : (n : Int) ≤ 9223372036854775807 := by omega
  have HV : Hid (validC d rs = (decide (0 ≤ d) && decide (d ≤ 100) && decide (n ≤ 12) && okR (-1) rs)) := by show _ = _; rw [validC, hn]
  clear hin hok hn hc hcb
  rcases (show d < 0 ∨ (0 ≤ d ∧ 100 < d) ∨ (0 ≤ d ∧ d ≤ 100 ∧ 12 < n) ∨ (0 ≤ d ∧ d ≤ 100 ∧ n ≤ 12) by omega) with k1 | ⟨k1, k2⟩ | ⟨k1, k2, k3⟩ | ⟨k1, k2, k3⟩
  · have HV2 : Hid (validC d rs = false) := by show _ = _; rw [HV.out, decide_eq_false (by omega)]; rfl
    go_enter Try.func12, Try.ntmps12
    go_wp2_with fail
    go_ret
    exact ⟨ret_bool HV2.out.symm, HW.out⟩
  · have HV2 : Hid (validC d rs = false) := by show _ = _; rw [HV.out, decide_eq_false (show ¬ d ≤ 100 by omega), Bool.and_false]; rfl
    go_enter Try.func12, Try.ntmps12
    go_wp2_with fail
    go_ret
    exact ⟨ret_bool HV2.out.symm, HW.out⟩
  · have HV2 : Hid (validC d rs = false) := by show _ = _; rw [HV.out, decide_eq_false (show ¬ n ≤ 12 by omega), Bool.and_false]; rfl
    have k4 : (12 : Int) < n := by omega
    go_enter Try.func12, Try.ntmps12
    go_wp2_with fail
    go_ret
    exact ⟨ret_bool HV2.out.symm, HW.out⟩
  · have HV2 : Hid (validC d rs = okR (-1) rs) := by show _ = _; rw [HV.out, decide_eq_true k1, decide_eq_true k2, decide_eq_true k3]; rfl
    have k4 : (n : Int) ≤ 12 := by omega
    go_enter Try.func12, Try.ntmps12
    go_wp2_with fail
    generalize w.alloc (.cells #[.int .i64 d, .slice a n c] 24) = W1 at *
    generalize hpb : w.heap.size = pb at HX ⊢
    go_loopw [3] (fun i wr => ∃ k : Nat, k ≤ n ∧ i = .int .i64 k ∧ okR (-1) (rs.take k) = true ∧ Below W1.heap.size W1 wr) (fun i _ => 12 - (intOf i).toNat)
    case atStart => exact ⟨0, Nat.zero_le _, rfl, rfl, Below.refl _ _⟩
    case round =>
      obtain ⟨k, hk, rfl, hu, hB⟩ := hrel
      obtain ⟨e0, e1⟩ := lastL_bounds k hu
      have HB := Lib.hid hB
      have HU := Lib.hid hu
      clear hu hB
      have hX := heap_below HB.out HX.out
      have c1 := (cell_of_row _ _ 1 _ _ _ hX).trans (by rfl : _ = some (.slice a n c))
      have clt := lt_of_cell c1
      by_cases hlt : k < n
      · have hlt' : (k : Int) < n := by omega
        have hkl : k < rs.length := by have := HN.out; omega
        obtain ⟨g, o, rfl, t0, t1, t2⟩ := (HI.out.via HB.out).get hkl
        have HT := Lib.hid (okR_take hkl)
        have HF := Lib.hid (fun h => okR_stop hkl h)
        obtain ⟨i0, i1, i2⟩ := HK.out _ (rds_mem hkl)
        clear hkl
        have HY := Lib.hid (heap_alloc_new wr (.cells #[.int .i64 (rs.getD k default).1, .int .i64 (rs.getD k default).2.1, .int .i64 (rs.getD k default).2.2] 46))
        have HB2 := Lib.hid (HB.out.alloc HB.out.size (.cells #[.int .i64 (rs.getD k default).1, .int .i64 (rs.getD k default).2.1, .int .i64 (rs.getD k default).2.2] 46))
        have HE : Hid (∀ m, k = m + 1 → lastL (-1) (rs.take k) = (rs.getD m default).1) := fun m e => by subst e; exact lastL_take (by have := HN.out; omega) (-1)
        have HE0 : Hid (k = 0 → lastL (-1) (rs.take k) = -1) := fun e => by subst e; rfl
        generalize lastL (-1) (rs.take k) = e at *
        generalize rs.getD k default = r at *
        obtain ⟨x, y, z⟩ := r
        dsimp only at t0 t1 t2 i0 i1 i2 HY HB2
        rcases (show k = 0 ∨ ∃ m, k = m + 1 from match k with | 0 => .inl rfl | m + 1 => .inr ⟨m, rfl⟩) with hk0 | ⟨m, rfl⟩
        · obtain rfl : e = -1 := HE0.out hk0
          have d7 : decide ((0 : Int) < (k : Int)) = false := decide_eq_false (by omega)
          have d8 : decide (0 < k) = false := decide_eq_false (by omega)
          have d9 : ¬ 0 < k := by omega
          clear hk0
          clear HE HE0
          go_wp2_with fail
          generalize wr.alloc (.cells #[.int .i64 x, .int .i64 y, .int .i64 z] 46) = wa at *
          generalize wr.heap.size = rb at *
          clear c1 clt hX t0 t1 t2
          obtain ⟨s0, s1, s2⟩ := box3 HY.out
          rcases (show (x < 0) ∨ (¬ x < 0 ∧ 10000000 < x) ∨ (¬ x < 0 ∧ ¬ 10000000 < x ∧ y < 0) ∨ (¬ x < 0 ∧ ¬ 10000000 < x ∧ ¬ y < 0 ∧ z < y) ∨ (¬ x < 0 ∧ ¬ 10000000 < x ∧ ¬ y < 0 ∧ ¬ z < y ∧ 10000000 < z) ∨ (¬ x < 0 ∧ ¬ 10000000 < x ∧ ¬ y < 0 ∧ ¬ z < y ∧ ¬ 10000000 < z) by omega) with h | h | h | h | h | h
          · have HR : Hid (rowOk (-1) (x, y, z) = false) := (rowOk_up (by omega) (by omega))
            have d0 : decide (x < 0) = true := decide_eq_true (by omega)
            clear h
            go_quiet (fail)
            go_wp2_with fail
            go_ret
            exact ⟨ret_bool (by rw [HV2.out, HF.out HR.out]), belowVia (below_drewN HB2.out _) HW.out⟩
          · have HR : Hid (rowOk (-1) (x, y, z) = false) := (rowOk_up (by omega) (by omega))
            have d0 : decide (x < 0) = false := decide_eq_false (by omega)
            have d1 : decide (10000000 < x) = true := decide_eq_true (by omega)
            clear h
            go_quiet (fail)
            go_wp2_with fail
            go_ret
            exact ⟨ret_bool (by rw [HV2.out, HF.out HR.out]), belowVia (below_drewN HB2.out _) HW.out⟩
          · have HR : Hid (rowOk (-1) (x, y, z) = false) := (rowOk_up (by omega) (by omega))
            have d0 : decide (x < 0) = false := decide_eq_false (by omega)
            have d1 : decide (10000000 < x) = false := decide_eq_false (by omega)
            have d2 : decide (y < 0) = true := decide_eq_true (by omega)
            clear h
            go_quiet (fail)
            go_wp2_with fail
            go_ret
            exact ⟨ret_bool (by rw [HV2.out, HF.out HR.out]), belowVia (below_drewN HB2.out _) HW.out⟩
          · have HR : Hid (rowOk (-1) (x, y, z) = false) := (rowOk_up (by omega) (by omega))
            have d0 : decide (x < 0) = false := decide_eq_false (by omega)
            have d1 : decide (10000000 < x) = false := decide_eq_false (by omega)
            have d2 : decide (y < 0) = false := decide_eq_false (by omega)
            have d3 : decide (z < y) = true := decide_eq_true (by omega)
            clear h
            go_quiet (fail)
            go_wp2_with fail
            go_ret
            exact ⟨ret_bool (by rw [HV2.out, HF.out HR.out]), belowVia (below_drewN HB2.out _) HW.out⟩
          · have HR : Hid (rowOk (-1) (x, y, z) = false) := (rowOk_up (by omega) (by omega))
            have d0 : decide (x < 0) = false := decide_eq_false (by omega)
            have d1 : decide (10000000 < x) = false := decide_eq_false (by omega)
            have d2 : decide (y < 0) = false := decide_eq_false (by omega)
            have d3 : decide (z < y) = false := decide_eq_false (by omega)
            have d4 : decide (10000000 < z) = true := decide_eq_true (by omega)
            clear h
            go_quiet (fail)
            go_wp2_with fail
            go_ret
            exact ⟨ret_bool (by rw [HV2.out, HF.out HR.out]), belowVia (below_drewN HB2.out _) HW.out⟩
          · have HR : Hid (rowOk (-1) (x, y, z) = true) := (rowOk_iff.2 (by omega))
            have d0 : decide (x < 0) = false := decide_eq_false (by omega)
            have d1 : decide (10000000 < x) = false := decide_eq_false (by omega)
            have d2 : decide (y < 0) = false := decide_eq_false (by omega)
            have d3 : decide (z < y) = false := decide_eq_false (by omega)
            have d4 : decide (10000000 < z) = false := decide_eq_false (by omega)
            clear h
            go_quiet (fail)
            go_wp2_with fail
            go_roundw
            case rel => exact ⟨k + 1, by omega, by go_num, by rw [HT.out, HU.out, HR.out]; rfl, below_drewN HB2.out _⟩
            case measure => simp [intOf]; omega
        · obtain rfl : e = (rs.getD m default).1 := HE.out m rfl
          have hml : m < rs.length := by have := HN.out; omega
          obtain ⟨g', o', ha, u0, _, _⟩ := (HI.out.via HB2.out).get hml
          cases ha
          clear HE HE0 hml
          generalize (rs.getD m default).1 = e at *
          go_wp2_with fail
          have hX2 := heap_below HB2.out HX.out
          generalize wr.alloc (.cells #[.int .i64 x, .int .i64 y, .int .i64 z] 46) = wa at *
          generalize wr.heap.size = rb at *
          have c2 := (cell_of_row _ _ 1 _ _ _ hX2).trans (by rfl : _ = some (.slice (some ⟨g, o, none⟩) n c))
          clear c1 clt hX hX2 t0 t1 t2
          obtain ⟨s0, s1, s2⟩ := box3 HY.out
          rcases (show (x < 0) ∨ (¬ x < 0 ∧ 10000000 < x) ∨ (¬ x < 0 ∧ ¬ 10000000 < x ∧ y < 0) ∨ (¬ x < 0 ∧ ¬ 10000000 < x ∧ ¬ y < 0 ∧ z < y) ∨ (¬ x < 0 ∧ ¬ 10000000 < x ∧ ¬ y < 0 ∧ ¬ z < y ∧ 10000000 < z) ∨ (¬ x < 0 ∧ ¬ 10000000 < x ∧ ¬ y < 0 ∧ ¬ z < y ∧ ¬ 10000000 < z ∧ x ≤ e) ∨ (¬ x < 0 ∧ ¬ 10000000 < x ∧ ¬ y < 0 ∧ ¬ z < y ∧ ¬ 10000000 < z ∧ e < x) by omega) with h | h | h | h | h | h | h
          · have HR : Hid (rowOk e (x, y, z) = false) := (rowOk_up (by omega) (by omega))
            have d0 : decide (x < 0) = true := decide_eq_true (by omega)
            clear h
            go_quiet (fail)
            go_wp2_with fail
            go_ret
            exact ⟨ret_bool (by rw [HV2.out, HF.out HR.out]), belowVia (below_drewN HB2.out _) HW.out⟩
          · have HR : Hid (rowOk e (x, y, z) = false) := (rowOk_up (by omega) (by omega))
            have d0 : decide (x < 0) = false := decide_eq_false (by omega)
            have d1 : decide (10000000 < x) = true := decide_eq_true (by omega)
            clear h
            go_quiet (fail)
            go_wp2_with fail
            go_ret
            exact ⟨ret_bool (by rw [HV2.out, HF.out HR.out]), belowVia (below_drewN HB2.out _) HW.out⟩
          · have HR : Hid (rowOk e (x, y, z) = false) := (rowOk_up (by omega) (by omega))
            have d0 : decide (x < 0) = false := decide_eq_false (by omega)
            have d1 : decide (10000000 < x) = false := decide_eq_false (by omega)
            have d2 : decide (y < 0) = true := decide_eq_true (by omega)
            clear h
            go_quiet (fail)
            go_wp2_with fail
            go_ret
            exact ⟨ret_bool (by rw [HV2.out, HF.out HR.out]), belowVia (below_drewN HB2.out _) HW.out⟩
          · have HR : Hid (rowOk e (x, y, z) = false) := (rowOk_up (by omega) (by omega))
            have d0 : decide (x < 0) = false := decide_eq_false (by omega)
            have d1 : decide (10000000 < x) = false := decide_eq_false (by omega)
            have d2 : decide (y < 0) = false := decide_eq_false (by omega)
            have d3 : decide (z < y) = true := decide_eq_true (by omega)
            clear h
            go_quiet (fail)
            go_wp2_with fail
            go_ret
            exact ⟨ret_bool (by rw [HV2.out, HF.out HR.out]), belowVia (below_drewN HB2.out _) HW.out⟩
          · have HR : Hid (rowOk e (x, y, z) = false) := (rowOk_up (by omega) (by omega))
            have d0 : decide (x < 0) = false := decide_eq_false (by omega)
            have d1 : decide (10000000 < x) = false := decide_eq_false (by omega)
            have d2 : decide (y < 0) = false := decide_eq_false (by omega)
            have d3 : decide (z < y) = false := decide_eq_false (by omega)
            have d4 : decide (10000000 < z) = true := decide_eq_true (by omega)
            clear h
            go_quiet (fail)
            go_wp2_with fail
            go_ret
            exact ⟨ret_bool (by rw [HV2.out, HF.out HR.out]), belowVia (below_drewN HB2.out _) HW.out⟩
          · have HR : Hid (rowOk e (x, y, z) = false) := (rowOk_up (by omega) (by omega))
            have d0 : decide (x < 0) = false := decide_eq_false (by omega)
            have d1 : decide (10000000 < x) = false := decide_eq_false (by omega)
            have d2 : decide (y < 0) = false := decide_eq_false (by omega)
            have d3 : decide (z < y) = false := decide_eq_false (by omega)
            have d4 : decide (10000000 < z) = false := decide_eq_false (by omega)
            have d6 : decide (x ≤ e) = true := decide_eq_true (by omega)
            have d7 : decide ((0 : Int) < (m : Int) + 1) = true := decide_eq_true (by omega)
            clear h
            go_quiet (fail)
            go_wp2_with fail
            go_ret
            exact ⟨ret_bool (by rw [HV2.out, HF.out HR.out]), belowVia (below_drewN HB2.out _) HW.out⟩
          · have HR : Hid (rowOk e (x, y, z) = true) := (rowOk_iff.2 (by omega))
            have d0 : decide (x < 0) = false := decide_eq_false (by omega)
            have d1 : decide (10000000 < x) = false := decide_eq_false (by omega)
            have d2 : decide (y < 0) = false := decide_eq_false (by omega)
            have d3 : decide (z < y) = false := decide_eq_false (by omega)
            have d4 : decide (10000000 < z) = false := decide_eq_false (by omega)
            have d6 : decide (x ≤ e) = false := decide_eq_false (by omega)
            have d7 : decide ((0 : Int) < (m : Int) + 1) = true := decide_eq_true (by omega)
            clear h
            go_quiet (fail)
            go_wp2_with fail
            go_roundw
            case rel => exact ⟨m + 1 + 1, by omega, by go_num, by rw [HT.out, HU.out, HR.out]; rfl, below_drewN HB2.out _⟩
            case measure => simp [intOf]; omega
      · obtain rfl : k = n := by omega
        go_wp2_with fail
        go_ret
        exact ⟨ret_bool (by have := HU.out; rw [List.take_of_length_le (by have := HN.out; omega)] at this; rw [HV2.out]; exact this.symm), belowVia HB.out HW.out⟩
end Go.Proofs.Ytiakjaglnjecgaa
