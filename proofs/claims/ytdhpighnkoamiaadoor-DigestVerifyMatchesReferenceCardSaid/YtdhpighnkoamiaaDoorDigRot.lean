/- Contracts of rotation. -/
import Derived.Test.YtdhpighnkoamiaaDoorDigArr
import Derived.Test.YtdhpighnkoamiaaDoorDigPure
import Derived.Deep.QuietTactic
namespace Go.Proofs.YtdhpighnkoamiaaDoor
open Go.RowKit Putlog

theorem u32_or_nat' (a b : Nat) (ha : a < 4294967296) (hb : b < 4294967296) : bits .or .u32 (a : Int) (b : Int) = ((a ||| b : Nat) : Int) := u32_or_nat a b ha hb

set_option maxHeartbeats 400000 in
theorem rotl_any (x s : Nat) (c : Int) (w : World) (hx : x < 4294967296) (h1 : 1 ≤ s) (h2 : s ≤ 31) (hc : bits .and .u64 (IntKind.u64.wrap c) 31 = (s : Int)) :
    Calls Tryd.prog 66 #[.int .u32 x, .int .i64 c] w fun e w' => e = .returned (.int .u32 (rotr x (32 - s) : Nat)) ∧ w = w' := by
  have h3 : (x : Int) < 4294967296 := by omega
  have h0 : 0 ≤ (x : Int) := by omega
  have h5 : (s : Int) ≤ 31 := by omega
  have he : bits .or .u32 ((x : Int) * 2 ^ s % 4294967296) ((x : Int) / 2 ^ (32 - s)) = (rotr x (32 - s) : Nat) := by
    rw [← rotl_or hx (by omega), ← u32_or_nat' _ _ (Nat.mod_lt _ (by decide)) (Nat.lt_of_le_of_lt (Nat.div_le_self _ _) hx)]
    simp
  have HE := Lib.hid he
  clear hx h2 he
  go_enter Tryd.func66, Tryd.ntmps66
  go_wp2
  go_ret
  exact ⟨ret_int HE.out, rfl⟩

theorem neg_and : ∀ k : Nat, k < 32 → 1 ≤ k → bits .and .u64 (IntKind.u64.wrap (-(k : Int))) 31 = ((32 - k : Nat) : Int) := by decide

set_option maxHeartbeats 400000 in
theorem rotated_any (x k : Nat) (w : World) (hx : x < 4294967296) (h1 : 1 ≤ k) (h2 : k < 32) :
    Calls Tryd.prog 63 #[.int .u32 x, .int .i64 k] w fun e w' => e = .returned (.int .u32 (rotr x k : Nat)) ∧ w = w' := by
  have HR : Hid (∀ w, Calls Tryd.prog 66 #[.int .u32 x, .int .i64 (-(k : Int))] w fun e w' => e = .returned (.int .u32 (rotr x k : Nat)) ∧ w = w') := Lib.hid fun w => by
    have := rotl_any x (32 - k) (-(k : Int)) w hx (by omega) (by omega) (neg_and k h2 h1)
    rwa [show 32 - (32 - k) = k by omega] at this
  have h3 : (k : Int) < 32 := by omega
  clear hx h2
  go_enter Tryd.func63, Tryd.ntmps63
  go_wp2_with fail
  refine (HR.out _).mono ?_; rintro e w' ⟨rfl, rfl⟩
  go_wp2_with fail
  go_ret
  exact ⟨rfl, rfl⟩
theorem rotated_q (x : Nat) (c : Int) (w : World) (hx : x < 4294967296) (h1 : 1 ≤ c) (h2 : c < 32) :
    Calls Tryd.prog 63 #[.int .u32 x, .int .i64 c] w fun e w' => e = .returned (.int .u32 (rotr x c.toNat : Nat)) ∧ w' = w := by
  obtain ⟨k, rfl⟩ := Int.eq_ofNat_of_zero_le (by omega : 0 ≤ c)
  exact (rotated_any x k w hx (by omega) (by omega)).mono fun _ _ ⟨he, hw⟩ => ⟨he, hw.symm⟩
theorem word4_bits {a b c d : Nat} (ha : a < 256) (hb : b < 256) (hc : c < 256) (hd : d < 256) :
    bits .or .u32 (bits .or .u32 (bits .or .u32 ((a : Int) * 16777216) ((b : Int) * 65536)) ((c : Int) * 256)) (d : Int) = (word4 a b c d : Nat) := by
  have e1 := u32_or_nat (a * 16777216) (b * 65536) (by omega) (by omega)
  have l1 : a * 16777216 ||| b * 65536 < 4294967296 := Nat.or_lt_two_pow (n := 32) (by omega) (by omega)
  have e2 := u32_or_nat (a * 16777216 ||| b * 65536) (c * 256) l1 (by omega)
  have l2 : (a * 16777216 ||| b * 65536) ||| c * 256 < 4294967296 := Nat.or_lt_two_pow (n := 32) l1 (by omega)
  have e3 := u32_or_nat ((a * 16777216 ||| b * 65536) ||| c * 256) d l2 (by omega)
  rw [word4_or hb hc hd] at e3
  simp only [Int.natCast_mul, Int.cast_ofNat_Int] at e1 e2
  rw [e1, e2, e3]
theorem xor3_bits {a b c : Nat} (ha : a < 4294967296) (hb : b < 4294967296) (hc : c < 4294967296) : bits .xor .u32 (bits .xor .u32 (a : Int) (b : Int)) (c : Int) = ((a ^^^ b ^^^ c : Nat) : Int) := by
  rw [u32_xor_nat a b ha hb, u32_xor_nat _ c (Nat.xor_lt_two_pow (n := 32) ha hb) hc]
theorem sig0_bits {x : Nat} (hx : x < 4294967296) : bits .xor .u32 (bits .xor .u32 (rotr x 7 : Nat) (rotr x 18 : Nat)) ((x : Int) / 8) = (sig0 x : Nat) := by
  have := xor3_bits (rotr_lt (k := 7) hx (by decide)) (rotr_lt (k := 18) hx (by decide)) (show x / 8 < 4294967296 by omega)
  simpa [sig0] using this
theorem sig1_bits {x : Nat} (hx : x < 4294967296) : bits .xor .u32 (bits .xor .u32 (rotr x 17 : Nat) (rotr x 19 : Nat)) ((x : Int) / 1024) = (sig1 x : Nat) := by
  have := xor3_bits (rotr_lt (k := 17) hx (by decide)) (rotr_lt (k := 19) hx (by decide)) (show x / 1024 < 4294967296 by omega)
  simpa [sig1] using this
/-- A quiet callee behind a quiet region. -/
theorem quiet_add_same {P : Program} {f : FuncId} {args : Array Value} {w : World} {a n : Nat} {v : Value}
    (h : Calls P f args (w.drewN (a + n)) fun e w' => e = .returned v ∧ w' = w.drewN (a + n)) :
    Calls P f args (w.drewN (a + n)) fun e w'' => e = .returned v ∧ ∃ m, w'' = w.drewN (a + m) :=
  h.mono fun _ _ ⟨he, hm⟩ => ⟨he, n, hm⟩
theorem below_drewN {B : Nat} {a w : World} (h : Below B a w) (n : Nat) : Below B a (w.drewN n) := ⟨h.os, h.tape, h.output, h.size, h.block⟩
end Go.Proofs.YtdhpighnkoamiaaDoor
