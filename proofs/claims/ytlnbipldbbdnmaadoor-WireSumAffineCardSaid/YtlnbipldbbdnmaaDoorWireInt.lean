/- The contract of Int. -/
import Derived.Test.YtlnbipldbbdnmaaDoorWirePutInt
namespace Go.Proofs.YtlnbipldbbdnmaaDoor
open Go.RowKit Putlog

/-- What Int hands back at an offset of s. -/
def intEnd (l : List UInt8) (p : Nat) : Ending := match dec 0 0 (l.drop p) with
  | none => .returned (.tuple #[.int .i64 0, .int .i64 0, .int .i64 10])
  | some (z, k) => .returned (.tuple #[.int .i64 (zag z), .int .i64 ((p + k : Nat) : Int), .int .i64 0])

theorem wraps_u64 (n : Int) (h0 : 0 ≤ n) (h1 : n < 2 ^ 64) : IntKind.u64.wrap n = n := by
  simp only [IntKind.wrap, IntKind.bits, IntKind.signed]
  simp
  omega
theorem pow128 (k : Nat) : 128 ^ k = 2 ^ (7 * k) := by rw [Nat.pow_mul]
theorem dig_lt {b k : Nat} (hk : k ≤ 8) : b % 128 * 2 ^ (7 * k) < 2 ^ 63 := by
  have h1 : 2 ^ (7 * k) ≤ 2 ^ 56 := Nat.pow_le_pow_right (by omega) (by omega)
  have h2 : b % 128 * 2 ^ (7 * k) ≤ 127 * 2 ^ 56 := Nat.mul_le_mul (by omega) h1
  omega
theorem or_step {z b k : Nat} (hz : z < 128 ^ k) (hk : k ≤ 8) : bits .or .u64 (z : Int) (IntKind.u64.wrap ((b : Int) % 128 * 2 ^ (7 * k))) = ((z + b % 128 * 128 ^ k : Nat) : Int) := by
  have h0 := dig_lt (b := b) hk
  have h1 : 2 ^ (7 * k) ≤ 2 ^ 56 := Nat.pow_le_pow_right (by omega) (by omega)
  rw [pow128] at hz
  have e : ((b : Int) % 128 * 2 ^ (7 * k)) = ((b % 128 * 2 ^ (7 * k) : Nat) : Int) := by simp
  rw [e, wraps_u64 _ (by omega) (by omega), (bits_nat .u64 64 (by decide) wraps_u64 z (b % 128 * 2 ^ (7 * k)) (by omega) (by omega)).2, pow128]
  congr 1
  rw [Nat.mul_comm, Nat.or_comm, ← Nat.two_pow_add_eq_or_of_lt hz, Nat.add_comm]
theorem step_lt {z b k : Nat} (hz : z < 128 ^ k) : z + b % 128 * 128 ^ k < 128 ^ (k + 1) := by
  have : b % 128 * 128 ^ k ≤ 127 * 128 ^ k := Nat.mul_le_mul_right _ (by omega)
  rw [Nat.pow_succ]; omega
theorem ret3 {a a' b b' c : Int} (h1 : a = a') (h2 : b = b') : Ending.returned (.tuple #[.int .i64 a, .int .i64 b, .int .i64 c]) = .returned (.tuple #[.int .i64 a', .int .i64 b', .int .i64 c]) := by rw [h1, h2]
theorem byte_pos {z b k y : Nat} (hz : z < 128 ^ k) (hy : y = z + b % 128 * 128 ^ k) (h : 9223372036854775806 < y) (hk : k < 9) : b ≠ 0 := by
  rintro rfl
  have h1 : 128 ^ k ≤ 128 ^ 8 := Nat.pow_le_pow_right (by omega) (by omega)
  simp at hy
  omega
theorem dec_end (i z : Nat) : dec i z [] = none := rfl
theorem dec_nine (z : Nat) : ∀ l, dec 9 z l = none
  | [] => rfl
  | _ :: _ => by simp [dec]
theorem drop_byte (s : ByteArray) (i : Nat) (h : i < s.size) : s.data.toList.drop i = s[i] :: s.data.toList.drop (i + 1) :=
  List.drop_eq_getElem_cons (by simpa using h)
theorem dec_more {k z b : Nat} {x : UInt8} {l : List UInt8} (hk : k < 9) (hx : x.toNat = b) (hb : 128 ≤ b) : dec k z (x :: l) = dec (k + 1) (z + b % 128 * 128 ^ k) l := by
  subst hx; rw [dec, if_neg (by omega), if_pos hb]
theorem dec_bad {k z b : Nat} {x : UInt8} {l : List UInt8} (hk : k < 9) (hx : x.toNat = b) (hb : b < 128) (h : (b = 0 ∧ 0 < k) ∨ 9223372036854775806 < z + b % 128 * 128 ^ k) : dec k z (x :: l) = none := by
  subst hx; rw [dec, if_neg (by omega), if_neg (by omega), if_pos h]
theorem dec_last {k z b : Nat} {x : UInt8} {l : List UInt8} (hk : k < 9) (hx : x.toNat = b) (hb : b < 128) (h : ¬ ((b = 0 ∧ 0 < k) ∨ 9223372036854775806 < z + b % 128 * 128 ^ k)) : dec k z (x :: l) = some (z + b % 128 * 128 ^ k, k + 1) := by
  subst hx; rw [dec, if_neg (by omega), if_neg (by omega), if_neg h]
theorem intEnd_none {l : List UInt8} {p : Nat} (h : dec 0 0 (l.drop p) = none) : intEnd l p = .returned (.tuple #[.int .i64 0, .int .i64 0, .int .i64 10]) := by unfold intEnd; rw [h]
theorem intEnd_some {l : List UInt8} {p z k : Nat} (h : dec 0 0 (l.drop p) = some (z, k)) : intEnd l p = .returned (.tuple #[.int .i64 (zag z), .int .i64 ((p + k : Nat) : Int), .int .i64 0]) := by unfold intEnd; rw [h]

set_option maxRecDepth 100000 in
set_option maxHeartbeats 1000000 in
theorem Int_at (s : ByteArray) (p : Nat) (w : World) (hs : s.size ≤ 9223372036854775807) (hp : p ≤ s.size) :
    Calls Tryd.prog 15 #[.string s, .int .i64 p] w fun e w' => e = intEnd s.data.toList p ∧ w = w' := by
  have hp0 : (p : Int) ≤ s.size := by omega
  have hs0 : (s.size : Int) ≤ 9223372036854775807 := by omega
  have hd1 : decide ((p : Int) < 0) = false := by simp
  have hd2 : decide (s.size < p) = false := by simpa using hp
  clear hs
  by_cases hm : 9 ≤ (s.size : Int) - p
  all_goals
    go_enter Tryd.func15, Tryd.ntmps15
    go_wp2
    go_loop [7, 24] (fun zz i => ∃ k z : Nat, k ≤ 9 ∧ p + k ≤ s.size ∧ i = .int .i64 k ∧ zz = .int .u64 z ∧ z < 128 ^ k ∧ dec 0 0 (s.data.toList.drop p) = dec k z (s.data.toList.drop (p + k))) (fun _ i => 9 - (intOf i).toNat)
    case atStart => exact ⟨0, 0, by omega, by omega, rfl, rfl, by omega, rfl⟩
    case round =>
      obtain ⟨k, z, hk9, hpk, rfl, rfl, hz, hdec⟩ := hrel
      by_cases hlt : k < 9 ∧ p + k < s.size
      · obtain ⟨h1, h2⟩ := hlt
        rw [drop_byte s (p + k) h2] at hdec
        obtain ⟨y, hy⟩ : ∃ y : Nat, y = z + s[p+k].toNat % 128 * 128 ^ k := ⟨_, rfl⟩
        have hor := or_step (b := s[p+k].toNat) hz (by omega : k ≤ 8)
        have hstep := step_lt (b := s[p+k].toNat) hz
        rw [← hy] at hor hstep
        have HD := Lib.hid hdec
        have HY := Lib.hid hy
        have HS := Lib.hid hstep
        have HZ := Lib.hid hz
        have h1k := Lib.hid h1
        have h1' : (k : Int) < 9 := by omega
        have h2' : (p : Int) + k < s.size := by omega
        clear hz hdec hy hstep hk9 hpk
        by_cases hb : 128 ≤ s[p+k].toNat
        · have hb' : 128 ≤ (s[p+k].toNat : Int) := by omega
          have HD2 := Lib.hid (HD.out.trans (dec_more h1 rfl hb))
          rw [← HY.out] at HD2
          have H1 := Lib.hid h1
          clear hb HD h1
          go_wp2
          go_round
          case rel => exact ⟨k + 1, y, by have := H1.out; omega, by omega, by go_num, rfl, HS.out, HD2.out⟩
          case measure => simp [intOf]; omega
        · have hb' : (s[p+k].toNat : Int) < 128 := by omega
          by_cases hbad : (s[p+k].toNat = 0 ∧ 0 < k) ∨ 9223372036854775806 < y
          · have hE := intEnd_none (HD.out.trans (dec_bad h1 rfl (by omega) (by rw [HY.out] at hbad; exact hbad)))
            have HE := Lib.hid hE
            clear hE HD h1 hb
            rcases hbad with ⟨hb0, hk0⟩ | hy
            · have hb1 : ((s[p+k].toNat : Int) == 0) = true := by simp [hb0]
              have hk1 : 0 < (k : Int) := by omega
              clear hb0 hk0
              go_wp2
              go_ret3
              exact ⟨HE.out.symm, rfl⟩
            · have hy1 : 9223372036854775806 < (y : Int) := by omega
              have hb1 : ((s[p+k].toNat : Int) == 0) = false := by
                have := byte_pos HZ.out HY.out hy h1k.out
                simp; omega
              clear hy
              go_wp2
              go_ret3
              exact ⟨HE.out.symm, rfl⟩
          · have hE := intEnd_some (HD.out.trans (dec_last h1 rfl (by omega) (by rw [HY.out] at hbad; exact hbad)))
            rw [← HY.out] at hE
            have HE := Lib.hid hE
            have hy1 : (y : Int) ≤ 9223372036854775806 := by omega
            have hy0 : 0 ≤ (y : Int) := by omega
            by_cases hb0 : s[p+k].toNat = 0
            · have hk0 : (k : Int) ≤ 0 := by omega
              have hb1 : ((s[p+k].toNat : Int) == 0) = true := by simp [hb0]
              clear hb0 hE HD HY h1 hb hbad
              go_wp2_with (go_at_call 26; refine (unfold_any _ _ (by omega) (by omega)).mono ?_; rintro e w' ⟨rfl, rfl⟩)
              go_ret3
              exact ⟨by rw [HE.out]; exact ret3 (by simp) (by omega), rfl⟩
            · have hb1 : ((s[p+k].toNat : Int) == 0) = false := by simp; omega
              clear hb0 hE HD HY h1 hb hbad
              go_wp2_with (go_at_call 26; refine (unfold_any _ _ (by omega) (by omega)).mono ?_; rintro e w' ⟨rfl, rfl⟩)
              go_ret3
              exact ⟨by rw [HE.out]; exact ret3 (by simp) (by omega), rfl⟩
      · have hE := intEnd_none (l := s.data.toList) (p := p) (by
          rw [hdec]
          by_cases h9 : k = 9
          · subst h9; exact dec_nine _ _
          · rw [List.drop_eq_nil_of_le (by simp; omega)]; rfl)
        have HE := Lib.hid hE
        clear hE hdec hz
        have hlt' : 9 ≤ (k : Int) ∨ (s.size : Int) - p ≤ k := by omega
        first
          | (have hlt2 : 9 ≤ (k : Int) := by omega
             clear hlt hlt'
             go_wp2
             go_ret3
             exact ⟨HE.out.symm, rfl⟩)
          | (have hlt2 : (s.size : Int) - p ≤ k := by omega
             clear hlt hlt'
             go_wp2
             go_ret3
             exact ⟨HE.out.symm, rfl⟩)
end Go.Proofs.YtlnbipldbbdnmaaDoor
