/- The contract of trimmed. -/
import Derived.Test.YtggkbeppfpgkaaaGreatDoorIntMem
namespace Go.Proofs.YtggkbeppfpgkaaaGreatDoor
open Go.RowKit Putlog

def ilen : Value → Nat
  | .int _ n => n.toNat
  | _ => 0
set_option maxRecDepth 100000 in
set_option maxHeartbeats 2000000 in
theorem trimmed_any (l : List Nat) (hl : l.length ≤ 100000) (a : Option Addr) (c : Nat) (w : World) (hr : Room l.length c) (hv : CellsAt w a (ofN l)) :
    Calls Tryz.prog 72 #[.slice a l.length c] w fun e w' => e = .returned (.slice a (trimL l).length c) ∧ w' = w := by
  obtain ⟨hc1, hc2⟩ := hr
  have HV := Lib.hid hv
  clear hv
  obtain ⟨n, hn⟩ : ∃ n, n = l.length := ⟨_, rfl⟩
  rw [← hn] at hl hc1 ⊢
  have HN := Lib.hid hn
  have hlb : (n : Int) ≤ 100000 := by omega
  clear hn
  go_enter Tryz.func72, Tryz.ntmps72
  go_wp2_with fail
  go_loop [3] (fun v => ∃ k : Nat, k ≤ n ∧ v = .int .i64 k ∧ trimL (l.take k) = trimL l) (fun v => ilen v)
  case atStart => exact ⟨n, Nat.le_refl _, rfl, by rw [HN.out, List.take_length]⟩
  case round =>
    obtain ⟨k, hk, rfl, ht⟩ := hrel
    have hkb : (k : Int) ≤ 100000 := by omega
    have hkc : (k : Int) ≤ c := by omega
    rcases Nat.eq_zero_or_pos k with rfl | h0
    · have HT : Hid (trimL l = []) := by show trimL l = []; rw [← ht]; rfl
      clear ht
      go_wp2_with fail
      go_ret
      refine ⟨?_, rfl⟩
      rw [HT.out]; rfl
    · obtain ⟨q, rfl⟩ : ∃ q, k = q + 1 := ⟨k - 1, by omega⟩
      obtain ⟨hs1, hs2⟩ := trim_step (l := l) (k := q) (by have := HN.out; omega)
      have hnil : ofN l ≠ [] := fun e => by
        have h1 : (ofN l).length = 0 := by rw [e]; rfl
        rw [ofN_len] at h1; have := HN.out; omega
      obtain ⟨g, o, rfl, hcell⟩ := HV.out.resolve_left hnil
      have hc := hcell q (by rw [ofN_len]; have := HN.out; omega)
      rw [ofN_get] at hc
      by_cases hx : l.getD q 0 = 0
      · have HM : Hid (trimL (l.take q) = trimL l) := by show _ = _; rw [← hs1 hx]; exact ht
        rw [hx] at hc
        clear ht hs1 hs2 hx hcell hnil
        go_wp2_with fail
        go_round
        case rel => exact ⟨q, by omega, rfl, HM.out⟩
        case measure => simp [ilen]
      · have HT : Hid (trimL l = l.take (q + 1)) := by show _ = _; rw [← ht]; exact hs2 hx
        have hxb : ((l.getD q 0 : Nat) : Int) ≠ 0 := by omega
        have hxe : (((l.getD q 0 : Nat) : Int) == 0) = false := by simpa using hxb
        generalize l.getD q 0 = x at *
        clear ht hs1 hs2 hcell hnil
        go_wp2_with fail
        go_ret
        refine ⟨?_, rfl⟩
        rw [HT.out]
        have : (l.take (q + 1)).length = q + 1 := by simp; have := HN.out; omega
        rw [this]; rfl
end Go.Proofs.YtggkbeppfpgkaaaGreatDoor
