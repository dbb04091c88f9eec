/- The reference's Reads: two bisections. -/
import Derived.Test.YtiakjaglnjecgaaClkRefAt
import Derived.Test.YtiakjaglnjecgaaClkReads
namespace Go.Proofs.Ytiakjaglnjecgaa
open Go.RowKit Putlog

set_option maxRecDepth 100000 in
set_option maxHeartbeats 4000000 in
theorem rreads_ok (d t : Int) (rs : List Rd) (v : Value) (w : World) (h : RdsAt w v rs) (hv : validC d rs = true) (ht0 : 0 ≤ t) (ht1 : t ≤ 10000000) :
    Calls Try.prog 17 #[.agg #[.int .i64 d, v], .int .i64 t] w fun e w' => ReadsE d rs t e ∧ Below w.heap.size w w' := by
  have HV := Lib.hid (fun w h => rvalid_any d rs v w h)
  rw [hv] at HV
  have HS := Lib.hid (fun l w h (h0 : 0 ≤ l) (h1 : l ≤ 10000000) => rbounds_ok d l rs v w h hv h0 h1)
  obtain ⟨hd0, hd1, _, _⟩ := validC_iff.1 hv
  have HM1 := Lib.hid (fun l m (hlm : l ≤ m) (hp : t ≤ winG d l rs) => Int.le_trans hp (winG_mono hd0 hd1 hlm rs))
  have HM2 := Lib.hid (fun l m (hlm : l ≤ m) (hp : t < winF d l rs) => Int.lt_of_lt_of_le hp (winF_mono hd0 hd1 hlm rs))
  have y0 := cell_rowN w #[.int .i64 d, v] 24 0 rfl
  have y1 := cell_rowN w #[.int .i64 d, v] 24 1 rfl
  have HX := Lib.hid (alloc_below w (.cells #[.int .i64 d, v] 24))
  have HR := Lib.hid (h.via (alloc_below w (.cells #[.int .i64 d, v] 24)))
  clear h hv
  go_enter Try.func17, Try.ntmps17
  go_wp2_with fail
  generalize w.alloc (.cells #[.int .i64 d, v] 24) = w1 at *
  generalize hpb : w.heap.size = pb at y0 y1 ⊢
  refine (HV.out _ HR.out).mono ?_
  rintro e w2 ⟨rfl, hB⟩
  have HX : Hid (Below pb w w2) := by subst hpb; exact belowVia hB HX.out
  have HR := Lib.hid (HR.out.via hB)
  replace y0 := keptBelow hB y0
  replace y1 := keptBelow hB y1
  have HY := Lib.hid (And.intro y0 y1)
  clear hB HV y0 y1
  go_wp2_with fail
  go_loopw [7, 8] (fun a b wr => ∃ x y : Int, a = .int .i64 x ∧ b = .int .i64 y ∧ 0 ≤ x ∧ x ≤ y ∧ y ≤ 10000001 ∧ (x = 0 ∨ winG d (x - 1) rs < t) ∧ (y = 10000001 ∨ t ≤ winG d y rs) ∧ Below w2.heap.size w2 wr) (fun a b _ => (intOf b - intOf a).toNat)
  case atStart => exact ⟨0, 10000001, rfl, rfl, by omega, by omega, by omega, .inl rfl, .inl rfl, Below.refl _ _⟩
  case round =>
    obtain ⟨x, y, rfl, rfl, x0, xy, y1, ha, hb, hB⟩ := hrel
    have HB := Lib.hid hB
    have HA1 := Lib.hid ha
    have HB1 := Lib.hid hb
    have q0 := keptBelow hB HY.out.1
    have q1 := keptBelow hB HY.out.2
    clear ha hb hB
    by_cases hlt : x < y
    · obtain ⟨m, hm, m0, m1⟩ : ∃ m, (x + y) / 2 = m ∧ x ≤ m ∧ m < y := ⟨_, rfl, by omega, by omega⟩
      have hs0 : 0 ≤ x + y := by omega
      go_wp2_with fail
      refine (HS.out m _ (HR.out.via HB.out) (by omega) (by omega)).mono ?_
      rintro e w3 ⟨rfl, hB⟩
      have HB := Lib.hid (belowVia hB HB.out)
      clear hB q0 q1 hs0
      by_cases hg : t ≤ winG d m rs
      · have HG := Lib.hid hg
        go_wp2_with fail
        go_roundw
        case rel => exact ⟨x, m, rfl, (by first | rfl | (congr 1; omega)), by omega, by omega, by omega, HA1.out, .inr HG.out, HB.out⟩
        case measure => simp [intOf]; omega
      · have HG : Hid (winG d (m + 1 - 1) rs < t) := by show _ < _; rw [Int.add_sub_cancel]; omega
        go_wp2_with fail
        go_roundw
        case rel => exact ⟨m + 1, y, (by first | rfl | (congr 1; omega)), rfl, by omega, by omega, by omega, .inr HG.out, HB1.out, HB.out⟩
        case measure => simp [intOf]; omega
    · obtain rfl : x = y := by omega
      have HF : Hid (FirstI (fun l => t ≤ winG d l rs) 10000001 x) := FirstI.mk HM1.out x0 y1 (HA1.out.imp id (fun k => by omega)) HB1.out
      have hxx : ¬ x < x := by omega
      go_wp2_with fail
      clear q0 q1 hlt HA1 HB1
      go_loopw [12, 8] (fun a b wr' => ∃ p y : Int, a = .int .i64 p ∧ b = .int .i64 y ∧ -1 ≤ p ∧ p + 1 ≤ y ∧ y ≤ 10000001 ∧ (p = -1 ∨ winF d p rs ≤ t) ∧ (y = 10000001 ∨ t < winF d y rs) ∧ Below w2.heap.size w2 wr') (fun a b _ => (intOf b - intOf a).toNat)
      case atStart => exact ⟨-1, 10000001, rfl, rfl, by omega, by omega, by omega, .inl rfl, .inl rfl, HB.out⟩
      case round =>
        obtain ⟨p, y, rfl, rfl, p0, py, y2, ha, hb, hB⟩ := hrel
        have HB := Lib.hid hB
        have HA1 := Lib.hid ha
        have HB1 := Lib.hid hb
        have q0 := keptBelow hB HY.out.1
        have q1 := keptBelow hB HY.out.2
        clear ha hb hB
        by_cases hlt : p + 1 < y
        · obtain ⟨m, hm, m0, m1⟩ : ∃ m, (p + y) / 2 = m ∧ p < m ∧ m < y := ⟨_, rfl, by omega, by omega⟩
          have hs0 : 0 ≤ p + y := by omega
          go_wp2_with fail
          refine (HS.out m _ (HR.out.via HB.out) (by omega) (by omega)).mono ?_
          rintro e w3 ⟨rfl, hB⟩
          have HB := Lib.hid (belowVia hB HB.out)
          clear hB q0 q1 hs0
          by_cases hg : winF d m rs ≤ t
          · have HG : Hid (winF d m rs ≤ t) := hg
            go_wp2_with fail
            go_roundw
            case rel => exact ⟨m, y, (by first | rfl | (congr 1; omega)), rfl, by omega, by omega, by omega, .inr HG.out, HB1.out, HB.out⟩
            case measure => simp [intOf]; omega
          · have HG : Hid (t < winF d m rs) := by show _ < _; omega
            go_wp2_with fail
            go_roundw
            case rel => exact ⟨p, m, rfl, (by first | rfl | (congr 1; omega)), by omega, by omega, by omega, HA1.out, .inr HG.out, HB.out⟩
            case measure => simp [intOf]; omega
        · have hpy : y = p + 1 := by omega
          have HF2 : Hid (FirstI (fun l => t < winF d l rs) 10000001 (p + 1)) := FirstI.mk HM2.out (by omega) (by omega) (by rcases HA1.out with k | k; exact .inl (by omega); exact .inr (by rw [Int.add_sub_cancel]; omega)) (by rw [← hpy]; exact HB1.out)
          subst hpy
          have HXX : Hid (Below pb w wr) := by subst hpb; exact belowVia HB.out HX.out
          by_cases hc : p < x
          · go_wp2_with fail
            go_ret3
            exact ⟨⟨x, p + 1, ⟨HF.out, HF2.out⟩, .inr ⟨by omega, rfl⟩⟩, HXX.out⟩
          · go_wp2_with fail
            go_ret3
            exact ⟨⟨x, p + 1, ⟨HF.out, HF2.out⟩, .inl ⟨by omega, ret_iii rfl (by omega) rfl⟩⟩, HXX.out⟩
set_option maxRecDepth 100000 in
set_option maxHeartbeats 2000000 in
theorem rreads_no (d t : Int) (rs : List Rd) (v : Value) (w : World) (h : RdsAt w v rs) (hno : ¬ (validC d rs = true ∧ 0 ≤ t ∧ t ≤ 10000000)) :
    Calls Try.prog 17 #[.agg #[.int .i64 d, v], .int .i64 t] w fun e w' => e = .returned (.tuple #[.int .i64 0, .int .i64 0, .int .i64 50]) ∧ Below w.heap.size w w' := by
  have HV := Lib.hid (fun w h => rvalid_any d rs v w h)
  have y0 := cell_rowN w #[.int .i64 d, v] 24 0 rfl
  have y1 := cell_rowN w #[.int .i64 d, v] 24 1 rfl
  have HX := Lib.hid (alloc_below w (.cells #[.int .i64 d, v] 24))
  have HR := Lib.hid (h.via (alloc_below w (.cells #[.int .i64 d, v] 24)))
  clear h
  rcases (show validC d rs = false ∨ (validC d rs = true ∧ t < 0) ∨ (validC d rs = true ∧ 0 ≤ t ∧ 10000000 < t) by revert hno; cases validC d rs <;> simp <;> omega) with k | ⟨k, k2⟩ | ⟨k, k2, k3⟩
  all_goals
    rw [k] at HV
    clear k hno
    go_enter Try.func17, Try.ntmps17
    go_wp2_with fail
    generalize w.alloc (.cells #[.int .i64 d, v] 24) = w1 at *
    refine (HV.out _ HR.out).mono ?_
    rintro e w2 ⟨rfl, hB⟩
    have HX := Lib.hid (belowVia hB HX.out)
    clear hB HV HR y0 y1
    go_wp2_with fail
    go_ret3
    exact ⟨rfl, HX.out⟩
end Go.Proofs.Ytiakjaglnjecgaa
