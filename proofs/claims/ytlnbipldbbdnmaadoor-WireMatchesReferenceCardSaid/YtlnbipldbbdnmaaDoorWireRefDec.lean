/- The contract of the reference's Int. -/
import Derived.Test.YtlnbipldbbdnmaaDoorWireRefInt
import Derived.Test.YtlnbipldbbdnmaaDoorWireUnique
namespace Go.Proofs.YtlnbipldbbdnmaaDoor
open Go.RowKit Putlog

theorem shl_step {b k : Nat} (hk : k ≤ 8) : IntKind.u64.wrap ((b : Int) % 128 * 2 ^ (7 * k)) = ((b % 128 * 128 ^ k : Nat) : Int) := by
  have h0 := dig_lt (b := b) hk
  have e : ((b : Int) % 128 * 2 ^ (7 * k)) = ((b % 128 * 2 ^ (7 * k) : Nat) : Int) := by simp
  rw [e, wraps_u64 _ (by omega) (by omega), pow128]
theorem take_some {l : List UInt8} {y i : Nat} (h : dec 0 0 l = some (y, i)) : l.take i = leb y := (dec_some h).2.2
theorem take_none {l : List UInt8} {y i : Nat} (hy : y ≤ 9223372036854775806) (h : dec 0 0 l = none) : l.take i ≠ leb y := by
  intro e
  have e2 : l = leb y ++ l.drop i := by conv => lhs; rw [← List.take_append_drop i l, e]
  rw [e2, dec_leb y _ hy] at h
  cases h

theorem slice_ne {s : ByteArray} {p k y : Nat} (hm : y ≤ 9223372036854775806) (h : dec 0 0 (s.data.toList.drop p) = none) : ((⟨(leb y).toArray⟩ : ByteArray).toList == (s.extract p (p + k + 1)).toList) = false := by
  rw [beq_eq_false_iff_ne]
  intro e
  rw [show p + k + 1 = p + (k + 1) by omega, drop_take, ByteArray.toList_eq] at e
  exact take_none hm h e.symm
theorem slice_eq {s : ByteArray} {p k y : Nat} (h : dec 0 0 (s.data.toList.drop p) = some (y, k + 1)) : ((⟨(leb y).toArray⟩ : ByteArray).toList == (s.extract p (p + k + 1)).toList) = true := by
  rw [beq_iff_eq, show p + k + 1 = p + (k + 1) by omega, drop_take, ByteArray.toList_eq]
  exact (take_some h).symm
theorem dec_yes {s : ByteArray} {p k z b : Nat} {x : UInt8} {l : List UInt8} (hk : k < 9) (hx : x.toNat = b) (hb : b < 128) (h : dec 0 0 (s.data.toList.drop p) = dec k z (x :: l)) (hn : ¬ dec 0 0 (s.data.toList.drop p) = none) : dec 0 0 (s.data.toList.drop p) = some (z + b % 128 * 128 ^ k, k + 1) := by
  rw [h]
  by_cases hc : (b = 0 ∧ 0 < k) ∨ 9223372036854775806 < z + b % 128 * 128 ^ k
  · exact absurd (h.trans (dec_bad hk hx hb hc)) hn
  · exact dec_last hk hx hb hc

set_option maxRecDepth 100000 in
set_option maxHeartbeats 2000000 in
theorem RefInt_at (s : ByteArray) (p : Nat) (w : World) (hs : s.size ≤ 9223372036854775800) (hp : p ≤ s.size) :
    Calls Tryd.prog 16 #[.string s, .int .i64 p] w fun e w' => e = intEnd s.data.toList p ∧ Below w.heap.size w w' := by
  have hp0 : (p : Int) ≤ s.size := by omega
  have hs0 : (s.size : Int) ≤ 9223372036854775800 := by omega
  have hd1 : decide ((p : Int) < 0) = false := by simp
  have hd2 : decide (s.size < p) = false := by simpa using hp
  clear hs
  go_enter Tryd.func16, Tryd.ntmps16
  go_wp2
  go_loop [7, 8] (fun zz i => ∃ k z : Nat, k ≤ 9 ∧ p + k ≤ s.size ∧ i = .int .i64 k ∧ zz = .int .u64 z ∧ z < 128 ^ k ∧ dec 0 0 (s.data.toList.drop p) = dec k z (s.data.toList.drop (p + k))) (fun _ i => 9 - (intOf i).toNat)
  case atStart => exact ⟨0, 0, by omega, by omega, rfl, rfl, by omega, rfl⟩
  case round =>
    obtain ⟨k, z, hk9, hpk, rfl, rfl, hz, hdec⟩ := hrel
    by_cases hlt : k < 9 ∧ p + k < s.size
    · obtain ⟨h1, h2⟩ := hlt
      rw [drop_byte s (p + k) h2] at hdec
      obtain ⟨d, hd⟩ : ∃ d : Nat, d = s[p+k].toNat % 128 * 128 ^ k := ⟨_, rfl⟩
      obtain ⟨y, hy⟩ : ∃ y : Nat, y = z + d := ⟨_, rfl⟩
      have hsh := shl_step (b := s[p+k].toNat) (by omega : k ≤ 8)
      have hstep := step_lt (b := s[p+k].toNat) hz
      rw [← hd] at hsh hstep
      rw [← hy] at hstep
      have hy63 : y < 9223372036854775808 := by
        have : 128 ^ (k + 1) ≤ 128 ^ 9 := Nat.pow_le_pow_right (by omega) (by omega)
        omega
      have hsum : (z : Int) + (d : Int) = (y : Int) := by omega
      have hyb : (z : Int) + (d : Int) ≤ 9223372036854775807 := by omega
      have hbt : (s[p+k].toNat : Int) < 256 := by have := UInt8.toNat_lt s[p+k]; omega
      have HY := Lib.hid (hy.trans (by rw [hd]))
      have HD := Lib.hid hdec
      have HS := Lib.hid hstep
      have h1' : (k : Int) < 9 := by omega
      have h2' : (p : Int) + k < s.size := by omega
      have H1 := Lib.hid h1
      have Y63 := Lib.hid hy63
      clear hz hdec hd hy hstep hk9 hpk hy63
      by_cases hb : 128 ≤ s[p+k].toNat
      · have hb' : 128 ≤ (s[p+k].toNat : Int) := by omega
        have HD2 := Lib.hid (HD.out.trans (dec_more h1 rfl hb))
        rw [← HY.out] at HD2
        clear hb HD h1
        go_wp2_with fail
        go_round
        case rel => exact ⟨k + 1, y, by have := H1.out; omega, by omega, by go_num, rfl, HS.out, HD2.out⟩
        case measure => simp [intOf]; omega
      · have hb' : (s[p+k].toNat : Int) < 128 := by omega
        have hy0 : 0 ≤ (y : Int) := by omega
        have hyi : (y : Int) ≤ 9223372036854775807 := by have := Y63.out; omega
        by_cases hodd : y % 2 = 1
        · have ho : ((y : Int) % 2 == 1) = true := by simp; omega
          have hzag : zag y = -((y : Int) / 2) - 1 := by unfold zag; rw [if_pos hodd]; omega
          by_cases hm : y ≤ 9223372036854775806
          · have HP : Hid (∀ w, Calls Tryd.prog 13 #[.int .i64 (-((y : Int) / 2) - 1)] w fun e W' => e = .returned (.tuple #[.string ⟨(leb y).toArray⟩, .int .i64 0]) ∧ Below w.heap.size w W') := fun w => by
              have h := RefPutInt_ok (zag y) w (zag_bd hm).1 (zag_bd hm).2
              unfold enc at h
              rw [zig_zag, hzag] at h
              exact h
            clear hodd
            by_cases hdn : dec 0 0 (s.data.toList.drop p) = none
            · have hne := slice_ne (s := s) (p := p) (k := k) hm hdn
              have HE := Lib.hid (intEnd_none hdn)
              generalize (⟨(leb y).toArray⟩ : ByteArray) = E at *
              have HP2 := Lib.hid HP.out
              clear HP hdn hm HD HY h1 hb HS
              go_wp2_with fail
              refine (HP2.out _).mono ?_; rintro e w1 ⟨rfl, hB⟩
              go_wp2_with fail
              go_ret3
              exact ⟨HE.out.symm, hB⟩
            · have hds := dec_yes (s := s) (p := p) h1 rfl (by omega) HD.out hdn
              rw [← HY.out] at hds
              have heq := slice_eq (s := s) (p := p) (k := k) hds
              have HE := Lib.hid (intEnd_some hds)
              generalize (⟨(leb y).toArray⟩ : ByteArray) = E at *
              have HP2 := Lib.hid HP.out
              have HZ := Lib.hid hzag
              clear HP hdn hm HD HY h1 hb HS hds hzag
              go_wp2_with fail
              refine (HP2.out _).mono ?_; rintro e w1 ⟨rfl, hB⟩
              go_wp2_with fail
              go_ret3
              exact ⟨by rw [HE.out]; exact ret3 HZ.out.symm (by omega), hB⟩
  
          · have hdn := HD.out.trans (dec_bad h1 rfl (by omega) (.inr (by rw [← HY.out]; omega)))
            have HE := Lib.hid (intEnd_none hdn)
            have HP : Hid (∀ w, Calls Tryd.prog 13 #[.int .i64 (-((y : Int) / 2) - 1)] w fun e w' => e = .returned (.tuple #[.string ⟨#[]⟩, .int .i64 10]) ∧ w = w') := fun w => RefPutInt_no _ w (.inl (by omega))
            clear hodd hdn hm HD HY h1 hb HS hzag
            go_wp2_with fail
            refine (HP.out _).mono ?_; rintro e w1 ⟨rfl, rfl⟩
            go_wp2_with fail
            go_ret3
            exact ⟨HE.out.symm, Below.refl _ _⟩
        · have ho : ((y : Int) % 2 == 1) = false := by simp; omega
          have hzag : zag y = (y : Int) / 2 := by unfold zag; rw [if_neg hodd]; omega
          have hm : y ≤ 9223372036854775806 := by have := Y63.out; omega
          have HP : Hid (∀ w, Calls Tryd.prog 13 #[.int .i64 ((y : Int) / 2)] w fun e W' => e = .returned (.tuple #[.string ⟨(leb y).toArray⟩, .int .i64 0]) ∧ Below w.heap.size w W') := fun w => by
            have h := RefPutInt_ok (zag y) w (zag_bd hm).1 (zag_bd hm).2
            unfold enc at h
            rw [zig_zag, hzag] at h
            exact h
          clear hodd
          by_cases hdn : dec 0 0 (s.data.toList.drop p) = none
          · have hne := slice_ne (s := s) (p := p) (k := k) hm hdn
            have HE := Lib.hid (intEnd_none hdn)
            generalize (⟨(leb y).toArray⟩ : ByteArray) = E at *
            have HP2 := Lib.hid HP.out
            clear HP hdn hm HD HY h1 hb HS
            go_wp2_with fail
            refine (HP2.out _).mono ?_; rintro e w1 ⟨rfl, hB⟩
            go_wp2_with fail
            go_ret3
            exact ⟨HE.out.symm, hB⟩
          · have hds := dec_yes (s := s) (p := p) h1 rfl (by omega) HD.out hdn
            rw [← HY.out] at hds
            have heq := slice_eq (s := s) (p := p) (k := k) hds
            have HE := Lib.hid (intEnd_some hds)
            generalize (⟨(leb y).toArray⟩ : ByteArray) = E at *
            have HP2 := Lib.hid HP.out
            have HZ := Lib.hid hzag
            clear HP hdn hm HD HY h1 hb HS hds hzag
            go_wp2_with fail
            refine (HP2.out _).mono ?_; rintro e w1 ⟨rfl, hB⟩
            go_wp2_with fail
            go_ret3
            exact ⟨by rw [HE.out]; exact ret3 HZ.out.symm (by omega), hB⟩
    · have hE := intEnd_none (l := s.data.toList) (p := p) (by
        rw [hdec]
        by_cases h9 : k = 9
        · subst h9; exact dec_nine _ _
        · rw [List.drop_eq_nil_of_le (by simp; omega)]; rfl)
      have HE := Lib.hid hE
      clear hE hdec hz
      by_cases hk : k < 9
      · have hk' : (k : Int) < 9 := by omega
        have hps : (s.size : Int) ≤ p + k := by omega
        clear hlt hk
        go_wp2_with fail
        go_ret3
        exact ⟨HE.out.symm, Below.refl _ _⟩
      · have hk' : 9 ≤ (k : Int) := by omega
        clear hlt hk
        go_wp2_with fail
        go_ret3
        exact ⟨HE.out.symm, Below.refl _ _⟩
end Go.Proofs.YtlnbipldbbdnmaaDoor
