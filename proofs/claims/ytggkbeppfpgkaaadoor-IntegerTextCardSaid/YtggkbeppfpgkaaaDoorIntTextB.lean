/- IntegerText's body. -/
import Derived.Test.YtggkbeppfpgkaaaDoorIntInts
namespace Go.Proofs.YtggkbeppfpgkaaaDoor
open Go.RowKit Putlog

theorem int_fits {n : Int} (h0 : -9223372036854775808 ≤ n) (h1 : n ≤ 9223372036854775807) : Fits n := by
  have h2 : n.natAbs < 10 ^ 19 := by
    have : (10 : Nat) ^ 19 = 10000000000000000000 := by decide
    omega
  exact fits_of h2 (by decide)
set_option maxRecDepth 100000 in
set_option maxHeartbeats 4000000 in
theorem Text_calls (n : Int) (s : ByteArray) (w : World) (h0 : -9223372036854775808 ≤ n) (h1 : n ≤ 9223372036854775807) (hs : (s.size : Int) ≤ 9223372036854775807) (hT : Tabs w) :
    Calls Tryd.prog 4 #[.int .i64 n, .string s] w fun e w' => e = .returned (.bool true) ∧ Below w.heap.size w w' := by
  have hfn := int_fits h0 h1
  obtain ⟨L, hL⟩ : ∃ L, L = min s.size 30 := ⟨_, rfl⟩
  have hmin : min (s.size : Int) 30 = (L : Nat) := by omega
  have hLs : (L : Int) ≤ s.size := by omega
  have hL30 : (L : Int) ≤ 30 := by omega
  have hqs : (s.extract 0 L).size = L := by simp; omega
  have HT := Lib.hid hT
  have C1 := Lib.hid (fun W (h : Tabs W) => from_any n h0 h1 W h)
  have C2 := Lib.hid (fun W => to_ok n hfn ⟨h0, h1⟩ W)
  have C3 := Lib.hid (fun W => validB n (fits250 hfn) W)
  rw [decide_eq_true hfn] at C3
  have hc : (∃ k, (∀ W, Tabs W → Calls Tryd.prog 13 #[.string (s.extract 0 L)] W fun e w' => e = .returned (.tuple #[.int .i64 k, .int .i64 0]) ∧ Below W.heap.size W w') ∧ (∀ W, Calls Tryd.prog 19 #[.string (s.extract 0 L)] W fun e w' => e = .returned (.bool true) ∧ w' = W) ∧ (∀ W, Tabs W → Calls Tryd.prog 12 #[.int .i64 k] W fun e w' => e = .returned (.string (s.extract 0 L)) ∧ Below W.heap.size W w')) ∨
      (∀ W, Tabs W → Calls Tryd.prog 13 #[.string (s.extract 0 L)] W fun e w' => e = .returned (.tuple #[.int .i64 0, .int .i64 30]) ∧ Below W.heap.size W w') := by
    by_cases hv : validT (s.extract 0 L).data.toList = true
    · obtain ⟨z, hz, hf⟩ := validT_some hv
      have e : s.extract 0 L = intB z := by show _ = (⟨(intT z).toArray⟩ : ByteArray); rw [← hz]
      rw [e]
      by_cases hi : InInt z
      · left
        refine ⟨z, fun W _ => to_ok z hf hi W, fun W => ?_, fun W h => from_any z hi.1 hi.2 W h⟩
        have := validB z (fits250 hf) W
        rwa [decide_eq_true hf] at this
      · right
        exact fun W h => to_out z hf hi W h
    · right
      exact fun W _ => to_no _ (by rw [hqs]; omega) (Bool.eq_false_iff.2 hv) W
  have HC := Lib.hid hc
  generalize intB n = t at *
  clear h0 h1 hL hc hfn hqs hT
  rcases HC.out with ⟨k, D1, D2, D3⟩ | D1
  · have D1 := Lib.hid D1
    have D2 := Lib.hid D2
    have D3 := Lib.hid D3
    clear HC
    go_enter Tryd.func4, Tryd.ntmps4
    go_wp2_with fail
    refine (sane_any w).mono ?_
    rintro e w1 ⟨rfl, hB⟩
    have HB1 := Lib.hid hB
    clear hB
    go_wp2_with fail
    refine (C1.out w1 (HT.out.via HB1.out)).mono ?_
    rintro e w2 ⟨rfl, hB⟩
    have HB2 := Lib.hid (belowVia hB HB1.out)
    clear hB HB1
    go_wp2_with fail
    refine (C2.out w2).mono ?_
    rintro e w3 ⟨rfl, hB⟩
    have HB3 := Lib.hid (belowVia hB HB2.out)
    clear hB HB2
    go_wp2_with fail
    refine (D1.out w3 (HT.out.via HB3.out)).mono ?_
    rintro e w4 ⟨rfl, hB⟩
    have HB4 := Lib.hid (belowVia hB HB3.out)
    clear hB HB3
    go_wp2_with fail
    refine (C3.out _).mono ?_
    rintro e w5 ⟨rfl, rfl⟩
    go_wp2_with fail
    refine (D2.out _).mono ?_
    rintro e w6 ⟨rfl, rfl⟩
    go_wp2_with fail
    refine (D3.out _ (HT.out.via HB4.out)).mono ?_
    rintro e w7 ⟨rfl, hB⟩
    have HB5 := Lib.hid (belowVia hB HB4.out)
    clear hB HB4
    go_wp2_with fail
    go_ret
    exact ⟨rfl, HB5.out⟩
  · have D1 := Lib.hid D1
    clear HC
    go_enter Tryd.func4, Tryd.ntmps4
    go_wp2_with fail
    refine (sane_any w).mono ?_
    rintro e w1 ⟨rfl, hB⟩
    have HB1 := Lib.hid hB
    clear hB
    go_wp2_with fail
    refine (C1.out w1 (HT.out.via HB1.out)).mono ?_
    rintro e w2 ⟨rfl, hB⟩
    have HB2 := Lib.hid (belowVia hB HB1.out)
    clear hB HB1
    go_wp2_with fail
    refine (C2.out w2).mono ?_
    rintro e w3 ⟨rfl, hB⟩
    have HB3 := Lib.hid (belowVia hB HB2.out)
    clear hB HB2
    go_wp2_with fail
    refine (D1.out w3 (HT.out.via HB3.out)).mono ?_
    rintro e w4 ⟨rfl, hB⟩
    have HB4 := Lib.hid (belowVia hB HB3.out)
    clear hB HB3
    go_wp2_with fail
    refine (C3.out _).mono ?_
    rintro e w5 ⟨rfl, rfl⟩
    go_wp2_with fail
    go_ret
    exact ⟨rfl, HB4.out⟩
end Go.Proofs.YtggkbeppfpgkaaaDoor
