/- Contracts of the reference's rotation, table and extension. -/
import Derived.Test.YtdhpighnkoamiaaDoorDigRot
import Derived.Test.YtdhpighnkoamiaaDoorDigRefPure
import Derived.BigQuiet
import Derived.Deep.RegionHeld3
namespace Go.Proofs.YtdhpighnkoamiaaDoor
open Go.RowKit Putlog

theorem ror_or {x k : Nat} (hx : x < 4294967296) (hk : k ≤ 32) : (x / 2 ^ k ||| x * 2 ^ (32 - k) % 4294967296) = rotr x k := by
  rw [Nat.or_comm]
  have := rotl_or (x := x) (s := 32 - k) hx (by omega)
  rwa [show 32 - (32 - k) = k by omega] at this
set_option maxHeartbeats 400000 in
theorem rrot_any (x k : Nat) (w : World) (hx : x < 4294967296) (h1 : 1 ≤ k) (h2 : k ≤ 31) :
    Calls Tryd.prog 56 #[.int .u32 x, .int .i64 k] w fun e w' => e = .returned (.int .u32 (rotr x k : Nat)) ∧ ∃ m, w' = w.drewN m := by
  have h3 : (x : Int) < 4294967296 := by omega
  have h0 : 0 ≤ (x : Int) := by omega
  have h5 : (k : Int) ≤ 31 := by omega
  have h6 : ((32 : Int) - k).toNat = 32 - k := by omega
  have he : bits .or .u32 ((x : Int) / 2 ^ k) ((x : Int) * 2 ^ (32 - k) % 4294967296) = (rotr x k : Nat) := by
    rw [← ror_or hx (by omega), ← u32_or_nat' _ _ (Nat.lt_of_le_of_lt (Nat.div_le_self _ _) hx) (Nat.mod_lt _ (by decide))]
    simp
  have HE := Lib.hid he
  clear hx h2 he
  go_enter Tryd.func56, Tryd.ntmps56
  go_wp2_with fail
  go_quiet (fail)
  go_wp2_with fail
  go_ret
  exact ⟨ret_int HE.out, _, rfl⟩
theorem rrot_q (x : Nat) (c : Int) (w : World) (n : Nat) (hx : x < 4294967296) (h1 : 1 ≤ c) (h2 : c ≤ 31) :
    Calls Tryd.prog 56 #[.int .u32 x, .int .i64 c] (w.drewN n) fun e w' => e = .returned (.int .u32 (rotr x c.toNat : Nat)) ∧ ∃ m, w' = w.drewN m := by
  obtain ⟨k, rfl⟩ := Int.eq_ofNat_of_zero_le (by omega : 0 ≤ c)
  exact (rrot_any x k _ hx (by omega) (by omega)).mono fun _ _ ⟨he, m, hw⟩ => ⟨he, n + m, by rw [hw, World.drewN_drewN]⟩

theorem rinfo_u32 : (Tryd.prog.info? 48).map (fun i => (i.zero, i.size, i.bytes)) = some (some (.int .u32 0), 1, 4) := by kernel_rfl
theorem rinfo_u8 : (Tryd.prog.info? 5).map (fun i => (i.zero, i.size, i.bytes)) = some (some (.int .u8 0), 1, 1) := by kernel_rfl
set_option maxHeartbeats 400000 in
theorem rconst_any (w : World) :
    Calls Tryd.prog 57 #[] w fun e w' => e = .returned (.slice (some ⟨w.heap.size, 0, none⟩) 64 64) ∧ ArrAt w' w.heap.size (u32s shaK) 48 ∧ Below w.heap.size w w' := by
  go_enter Tryd.func57, Tryd.ntmps57
  go_wp2_with fail
  go_ret
  exact ⟨rfl, ArrAt.new w (u32s shaK) _, (Below.refl _ _).alloc (Nat.le_refl _) _⟩
end Go.Proofs.YtdhpighnkoamiaaDoor
