/- The contract of Valid. -/
import Derived.Test.YtiakjaglnjecgaaClkUp
namespace Go.Proofs.Ytiakjaglnjecgaa
open Go.RowKit Putlog

def rowOk (e : Int) (r : Rd) : Bool := decide (e < r.1) && decide (r.1 ≤ 10000000) && decide (0 ≤ r.2.1) && decide (r.2.1 ≤ r.2.2) && decide (r.2.2 ≤ 10000000)
theorem okR_take {l : List Rd} {k : Nat} (h : k < l.length) : okR (-1) (l.take (k + 1)) = (okR (-1) (l.take k) && rowOk (lastL (-1) (l.take k)) (l.getD k default)) := by
  rw [rds_take h, okR_append]
  simp [okR, rowOk]
theorem lastL_take {l : List Rd} {k : Nat} (h : k < l.length) (e : Int) : lastL e (l.take (k + 1)) = (l.getD k default).1 := by
  rw [rds_take h, lastL_snoc]
theorem okR_stop {l : List Rd} {k : Nat} (h : k < l.length) (hn : rowOk (lastL (-1) (l.take k)) (l.getD k default) = false) : okR (-1) l = false := by
  have h1 : okR (-1) (l.take (k + 1)) = false := by rw [okR_take h, hn, Bool.and_false]
  rw [← List.take_append_drop (k + 1) l, okR_append, h1, Bool.false_and]
theorem lastL_bounds {l : List Rd} (k : Nat) (h : okR (-1) (l.take k) = true) : -1 ≤ lastL (-1) (l.take k) ∧ lastL (-1) (l.take k) ≤ 10000000 := by
  have := lastL_ge (Int.le_refl _) h; omega
theorem rowOk_iff {e a b c : Int} : rowOk e (a, b, c) = true ↔ e < a ∧ a ≤ 10000000 ∧ 0 ≤ b ∧ b ≤ c ∧ c ≤ 10000000 := by simp [rowOk, and_assoc]
theorem rowOk_no {e a b c : Int} (h : ¬ (e < a ∧ a ≤ 10000000 ∧ 0 ≤ b ∧ b ≤ c ∧ c ≤ 10000000)) : rowOk e (a, b, c) = false := by
  rw [← rowOk_iff] at h; simpa using h

set_option maxRecDepth 100000 in
set_option maxHeartbeats 2000000 in
theorem valid_any (d : Int) (rs : List Rd) (v : Value) (w : World) (h : RdsAt w v rs) :
    Calls Try.prog 11 #[.agg #[.int .i64 d, v]] w fun e w' => e = .returned (.bool (validC d rs)) ∧ Below w.heap.size w w' := by
  obtain ⟨⟨a, c, rfl, hc, hcb, hin⟩, hok⟩ := h
  have HI := Lib.hid (hin.via (alloc_below w (.cells #[.int .i64 d, .slice a rs.length c] 24)))
  have HK := Lib.hid hok
  obtain ⟨n, hn⟩ : ∃ n, n = rs.length := ⟨_, rfl⟩
  rw [← hn] at hc HI ⊢
  have HN := Lib.hid hn
  have HA := alloc_below w (.cells #[.int .i64 d, .slice a n c] 24)
  have HW := Lib.hid HA
  have hnb : (n : Int) ≤ 9223372036854775807 := by omega
  have HV : Hid (validC d rs = (decide (0 ≤ d) && decide (d ≤ 100) && decide (n ≤ 12) && okR (-1) rs)) := by show _ = _; rw [validC, hn]
  clear hin hok hn HA
  by_cases hd : 0 ≤ d ∧ d ≤ 100
  · have HD := Lib.hid (upOne_iff.2 hd)
    by_cases hn12 : n ≤ 12
    · have hn12' : (n : Int) ≤ 12 := by omega
      have HV2 : Hid (validC d rs = okR (-1) rs) := by show _ = _; rw [HV.out]; simp [hd, hn12]
      clear hd hn12
      go_enter Try.func11, Try.ntmps11
      go_wp2_with fail
      refine (up_one 100 d _ _ _ true HD.out (nums_one _ _ _ (by simp))).mono ?_
      rintro e w1 ⟨rfl, rfl⟩
      go_wp2_with fail
      go_loopw [3, 20] (fun e i wr => ∃ k : Nat, k ≤ n ∧ i = .int .i64 k ∧ e = .int .i64 (lastL (-1) (rs.take k)) ∧ okR (-1) (rs.take k) = true ∧ Below (w.heap.size + 1) (w.alloc (.cells #[.int .i64 d, .slice a n c] 24)) wr) (fun _ i _ => n - (intOf i).toNat)
      case atStart => exact ⟨0, Nat.zero_le _, rfl, rfl, rfl, (Below.refl _ _).alloc (by simp) _⟩
      case round =>
        obtain ⟨k, hk, rfl, rfl, hu, hB⟩ := hrel
        obtain ⟨b1, b2⟩ := lastL_bounds k hu
        have HB : Hid (Below (w.alloc (.cells #[.int .i64 d, .slice a n c] 24)).heap.size (w.alloc (.cells #[.int .i64 d, .slice a n c] 24)) wr) := by show Below _ _ _; simpa using hB
        have HU := Lib.hid hu
        clear hu hB
        by_cases hlt : k < n
        · have hlt' : (k : Int) < n := by omega
          have hkl : k < rs.length := by have := HN.out; omega
          obtain ⟨g, o, rfl, c0, c1, c2⟩ := (HI.out.via HB.out).get hkl
          have HT := Lib.hid (okR_take hkl)
          have HL := Lib.hid (lastL_take hkl (-1))
          have HF := Lib.hid (fun h => okR_stop hkl h)
          obtain ⟨i0, i1, i2⟩ := HK.out _ (rds_mem hkl)
          clear hkl
          generalize lastL (-1) (rs.take k) = e at *
          generalize rs.getD k default = r at *
          obtain ⟨x, y, z⟩ := r
          dsimp only at c0 c1 c2 i0 i1 i2
          by_cases he : e < x
          · by_cases hy : y ≤ z
            · cases hup : (upOne 10000000 x && (upOne 10000000 y && upOne 10000000 z)) with
              | true =>
                have HUP := Lib.hid hup
                have HR : Hid (rowOk e (x, y, z) = true) := by
                  show _ = _
                  rw [Bool.and_eq_true, Bool.and_eq_true, upOne_iff, upOne_iff, upOne_iff] at hup
                  rw [rowOk_iff]; omega
                clear hup
                go_wp2_with fail
                refine (up_three 10000000 x y z _ _ _ true HUP.out (nums_three _ _ _ _ _ (by simp))).mono ?_
                rintro e1 w1 ⟨rfl, rfl⟩
                go_wp2_with fail
                go_roundw
                case rel => exact ⟨k + 1, by omega, by go_num, by rw [HL.out], by rw [HT.out, HU.out, HR.out]; rfl, by have := ((HB.out.alloc (HB.out.size) (.cells #[.int .i64 x, .int .i64 y, .int .i64 z] 46)).alloc (by have := HB.out.size; simp at this ⊢; omega) (.cells #[.int .i64 x, .int .i64 y, .int .i64 z] 3)); simpa using this⟩
                case measure => simp [intOf]; omega
              | false =>
                have HUP := Lib.hid hup
                have HR : Hid (rowOk e (x, y, z) = false) := by
                  refine rowOk_no fun hr => ?_
                  have : (upOne 10000000 x && (upOne 10000000 y && upOne 10000000 z)) = true := by
                    rw [Bool.and_eq_true, Bool.and_eq_true, upOne_iff, upOne_iff, upOne_iff]; omega
                  rw [this] at hup; cases hup
                clear hup
                go_wp2_with fail
                refine (up_three 10000000 x y z _ _ _ false HUP.out (nums_three _ _ _ _ _ (by simp))).mono ?_
                rintro e1 w1 ⟨rfl, rfl⟩
                go_wp2_with fail
                go_ret
                exact ⟨ret_bool (by rw [HV2.out, HF.out HR.out]), (belowVia HB.out HW.out).alloc (belowVia HB.out HW.out).size _ |>.alloc (by have := (belowVia HB.out HW.out).size; simp; omega) _⟩
            · have hy' : z < y := by omega
              have HR : Hid (rowOk e (x, y, z) = false) := rowOk_no (by omega)
              clear hy
              go_wp2_with fail
              go_ret
              exact ⟨ret_bool (by rw [HV2.out, HF.out HR.out]), (belowVia HB.out HW.out).alloc (belowVia HB.out HW.out).size _⟩
          · have he' : x ≤ e := by omega
            have HR : Hid (rowOk e (x, y, z) = false) := rowOk_no (by omega)
            clear he
            go_wp2_with fail
            go_ret
            exact ⟨ret_bool (by rw [HV2.out, HF.out HR.out]), (belowVia HB.out HW.out).alloc (belowVia HB.out HW.out).size _⟩
        · obtain rfl : k = n := by omega
          go_wp2_with fail
          go_ret
          exact ⟨ret_bool (by have := HU.out; rw [List.take_of_length_le (by have := HN.out; omega)] at this; rw [HV2.out]; exact this.symm), belowVia HB.out HW.out⟩
    · have hn12' : (12 : Int) < n := by omega
      have HV2 : Hid (validC d rs = false) := by show _ = _; rw [HV.out]; simp [hn12]
      clear hd hn12
      go_enter Try.func11, Try.ntmps11
      go_wp2_with fail
      refine (up_one 100 d _ _ _ true HD.out (nums_one _ _ _ (by simp))).mono ?_
      rintro e w1 ⟨rfl, rfl⟩
      go_wp2_with fail
      go_ret
      exact ⟨ret_bool HV2.out.symm, HW.out.alloc HW.out.size _⟩
  · have HV2 : Hid (validC d rs = false) := by
      show _ = _
      rw [HV.out]
      have : (decide (0 ≤ d) && decide (d ≤ 100)) = false := by simp; omega
      rw [this]; rfl
    have HD := Lib.hid (upOne_no.2 (show d < 0 ∨ 100 < d by omega))
    clear hd
    go_enter Try.func11, Try.ntmps11
    go_wp2_with fail
    refine (up_one 100 d _ _ _ false HD.out (nums_one _ _ _ (by simp))).mono ?_
    rintro e w1 ⟨rfl, rfl⟩
    go_wp2_with fail
    go_ret
    exact ⟨ret_bool HV2.out.symm, HW.out.alloc HW.out.size _⟩
end Go.Proofs.Ytiakjaglnjecgaa
