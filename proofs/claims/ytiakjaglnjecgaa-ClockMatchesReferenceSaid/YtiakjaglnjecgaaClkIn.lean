/- The contract of the reference's Inside. -/
import Derived.Test.YtiakjaglnjecgaaClkKit
namespace Go.Proofs.Ytiakjaglnjecgaa
open Go.RowKit Putlog

set_option maxRecDepth 100000 in
set_option maxHeartbeats 2000000 in
theorem inside_any (l : List Sp) (hl : l.length ≤ 1000) (s : Int) (v : Value) (w : World) (h : SpsAt w v l) :
    Calls Try.prog 26 #[v, .int .i64 s] w fun e w' => e = .returned (.int .i64 (cnt s l)) ∧ w = w' := by
  obtain ⟨⟨a, c, rfl, hc, hcb, hin⟩, hok⟩ := h
  have HI := Lib.hid hin
  obtain ⟨n, hn⟩ : ∃ n, n = l.length := ⟨_, rfl⟩
  rw [← hn] at hc hl ⊢
  have HN := Lib.hid hn
  have hnb : (n : Int) ≤ 1000 := by omega
  clear hin hok hn
  go_enter Try.func26, Try.ntmps26
  go_wp2_with fail
  go_loop [5, 6] (fun m i => ∃ k : Nat, k ≤ n ∧ i = .int .i64 k ∧ m = .int .i64 (cnt s (l.take k))) (fun _ i => n - (intOf i).toNat)
  case atStart => exact ⟨0, Nat.zero_le _, rfl, rfl⟩
  case round =>
    obtain ⟨k, hk, rfl, rfl⟩ := hrel
    by_cases hlt : k < n
    · have hlt' : (k : Int) < n := by omega
      have hkl : k < l.length := by have := HN.out; omega
      obtain ⟨g, o, rfl, c0, c1⟩ := HI.out.get hkl
      have HT : Hid (cnt s (l.take (k + 1)) = cnt s (l.take k) + if inSp s (l.getD k default) then 1 else 0) := by show _ = _; rw [sps_take hkl, cnt_snoc]
      have hb := cnt_bounds s (l.take k)
      rw [List.length_take] at hb
      obtain ⟨hb0, hb1⟩ := hb
      have hb2 : cnt s (l.take k) ≤ 1000 := by omega
      clear hkl hb1
      generalize cnt s (l.take k) = m at *
      generalize l.getD k default = r at *
      obtain ⟨x, y⟩ := r
      dsimp only at c0 c1
      by_cases h1 : x ≤ s
      · by_cases h2 : s < y
        · have HE : Hid (inSp s (x, y) = true) := by show _ = _; simp [inSp, h1, h2]
          rw [HE.out] at HT
          go_wp2_with fail
          go_round
          case rel => exact ⟨k + 1, by omega, by go_num, by rw [HT.out]; rfl⟩
          case measure => simp [intOf]; omega
        · have h2' : y ≤ s := by omega
          have HE : Hid (inSp s (x, y) = false) := by show _ = _; simp [inSp]; omega
          rw [HE.out] at HT
          clear h2
          go_wp2_with fail
          go_round
          case rel => exact ⟨k + 1, by omega, by go_num, by rw [HT.out]; simp⟩
          case measure => simp [intOf]; omega
      · have h1' : s < x := by omega
        have HE : Hid (inSp s (x, y) = false) := by show _ = _; simp [inSp]; omega
        rw [HE.out] at HT
        clear h1
        go_wp2_with fail
        go_round
        case rel => exact ⟨k + 1, by omega, by go_num, by rw [HT.out]; simp⟩
        case measure => simp [intOf]; omega
    · obtain rfl : k = n := by omega
      have HT : Hid (l.take k = l) := List.take_of_length_le (by have := HN.out; omega)
      rw [HT.out]
      go_wp2_with fail
      go_ret
      exact ⟨rfl, rfl⟩
end Go.Proofs.Ytiakjaglnjecgaa
