/- The contract of Root, and the contracts that the laws take. -/
import Derived.Test.YtggkbeppfpgkaaaGreatDoorIntExp
namespace Go.Proofs.YtggkbeppfpgkaaaGreatDoor
open Go.RowKit Putlog

theorem sqrt_le (n : Nat) : sqrtN n ≤ n := by
  have h := sqrtN_le n
  rcases Nat.eq_zero_or_pos (sqrtN n) with h0 | h0
  · omega
  · exact Nat.le_trans (Nat.le_mul_of_pos_left _ h0) h
theorem sqrt_fits {x : Int} (hx : Fits x) : Fits (sqrtN x.natAbs : Nat) := by
  show (sqrtN x.natAbs : Int).natAbs < 10 ^ 200
  rw [Int.natAbs_natCast]
  exact Nat.lt_of_le_of_lt (sqrt_le _) hx
set_option maxRecDepth 100000 in
set_option maxHeartbeats 4000000 in
theorem root_ok (x : Int) (hx : Fits x) (h0 : 0 ≤ x) (w : World) :
    Calls Tryz.prog 17 #[.string (intB x)] w fun e w' => e = .returned (.tuple #[.string (intB (sqrtN x.natAbs : Nat)), .int .i64 0]) ∧ Below w.heap.size w w' := by
  have HB := Lib.hid (read_ok x hx)
  have hf := sqrt_fits hx
  have HR := Lib.hid (fun v W hv => root_any x.natAbs (fits250 hx) v W hv)
  have HS := Lib.hid (fun sv W hm => signed_any false (sqrtN x.natAbs) sv W (by have := fits250 hf; rwa [Int.natAbs_natCast] at this) hm)
  rw [show sgn false (sqrtN x.natAbs) = ((sqrtN x.natAbs : Nat) : Int) from rfl] at HS
  have HT := Lib.hid (fun v W hv => ntext (sqrtN x.natAbs : Nat) (fits250 hf) v W hv)
  have hn : decide (x < 0) = false := by simp; omega
  generalize intB (sqrtN x.natAbs : Nat) = rs at *
  generalize intB x = s at *
  generalize ((sqrtN x.natAbs : Nat) : Int) = r at *
  generalize digsL 10000 (sqrtN x.natAbs) = RL at *
  clear hx h0 hf
  go_enter Tryz.func17, Tryz.ntmps17
  go_wp2_with fail
  refine (HB.out w).mono ?_
  rintro e w1 ⟨⟨u, rfl, hu⟩, hB1⟩
  obtain ⟨a, ca, rfl, hra, hca⟩ := hu
  rw [hn]
  have hc1 := heap_alloc_new w1 (.cells #[.bool false, .slice a (digsL 10000 x.natAbs).length ca] 47)
  have hb := alloc_below w1 (.cells #[.bool false, .slice a (digsL 10000 x.natAbs).length ca] 47)
  obtain ⟨k1, k2, _, _⟩ := heap_cells hc1
  have HM := Lib.hid (MagAt.via hb (mag_of_num hra hca))
  have HB2 := Lib.hid (belowVia hb hB1)
  generalize digsL 10000 x.natAbs = D at *
  clear hb hc1 hB1 hra hca hn
  go_wp2_with fail
  refine (HR.out _ _ HM.out).mono ?_
  rintro e w2 ⟨⟨v2, rfl, hm2⟩, hB2⟩
  have HB3 := Lib.hid (belowVia hB2 HB2.out)
  clear hB2
  go_wp2_with fail
  refine (HS.out _ _ hm2).mono ?_
  rintro e w3 ⟨⟨v3, rfl, hn3⟩, hB3⟩
  have HB4 := Lib.hid (belowVia hB3 HB3.out)
  clear hB3
  go_wp2_with fail
  refine (HT.out _ _ hn3).mono ?_
  rintro e w4 ⟨rfl, hB4⟩
  go_wp2_with fail
  go_ret2
  exact ⟨rfl, belowVia hB4 HB4.out⟩
set_option maxRecDepth 100000 in
set_option maxHeartbeats 4000000 in
theorem root_neg (x : Int) (hx : Fits x) (h0 : x < 0) (w : World) :
    Calls Tryz.prog 17 #[.string (intB x)] w fun e w' => e = .returned (.tuple #[.string ⟨#[]⟩, .int .i64 30]) ∧ Below w.heap.size w w' := by
  have HB := Lib.hid (read_ok x hx)
  have hn : decide (x < 0) = true := by simp [h0]
  generalize intB x = s at *
  clear hx h0
  go_enter Tryz.func17, Tryz.ntmps17
  go_wp2_with fail
  refine (HB.out w).mono ?_
  rintro e w1 ⟨⟨u, rfl, hu⟩, hB1⟩
  obtain ⟨a, ca, rfl, hra, hca⟩ := hu
  rw [hn]
  have hc1 := heap_alloc_new w1 (.cells #[.bool true, .slice a (digsL 10000 x.natAbs).length ca] 47)
  have hb := alloc_below w1 (.cells #[.bool true, .slice a (digsL 10000 x.natAbs).length ca] 47)
  obtain ⟨k1, k2, _, _⟩ := heap_cells hc1
  have HB2 := Lib.hid (belowVia hb hB1)
  generalize digsL 10000 x.natAbs = D at *
  clear hb hc1 hB1 hra hca hn
  go_wp2_with fail
  go_ret2
  exact ⟨rfl, HB2.out⟩
set_option maxRecDepth 100000 in
set_option maxHeartbeats 4000000 in
theorem root_no (s : ByteArray) (hs : (s.size : Int) ≤ 9223372036854775807) (hv : validT s.data.toList = false) (w : World) :
    Calls Tryz.prog 17 #[.string s] w fun e w' => e = .returned (.tuple #[.string ⟨#[]⟩, .int .i64 30]) ∧ Below w.heap.size w w' := by
  have HB := Lib.hid (read_no s hs hv)
  clear hv
  go_enter Tryz.func17, Tryz.ntmps17
  go_wp2_with fail
  refine (HB.out w).mono ?_
  rintro e w1 ⟨rfl, hB1⟩
  have hc1 := heap_alloc_new w1 (.cells #[.bool false, .slice none 0 0] 47)
  obtain ⟨k1, k2, _, _⟩ := heap_cells hc1
  clear hc1
  go_wp2_with fail
  go_ret2
  exact ⟨rfl, belowVia (alloc_below _ _) hB1⟩
theorem api : Api where
  add := fun a b w ha hb => add_ok a b ha hb w
  sub := fun a b w ha hb => sub_ok a b ha hb w
  mul := fun a b w ha hb => mul_ok a b ha hb w
  div := fun a b w ha hb h0 => div_ok a b ha hb h0 w
  divNo := fun a w ha => div_zero a ha w
  cmp := fun a b w ha hb => cmp_ok a b ha hb w
  valid := fun s w hs => (valid_any s hs w).mono fun e w' ⟨h1, h2⟩ => ⟨h1, by rw [h2]; exact Below.refl _ _⟩
end Go.Proofs.YtggkbeppfpgkaaaGreatDoor
