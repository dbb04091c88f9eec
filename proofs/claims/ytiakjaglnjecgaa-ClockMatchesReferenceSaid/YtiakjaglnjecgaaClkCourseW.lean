/- The contracts of pick, twice, and of Shown. -/
import Derived.Test.YtiakjaglnjecgaaClkKit
import Derived.Test.YtiakjaglnjecgaaClkCourse
namespace Go.Proofs.Ytiakjaglnjecgaa
open Go.RowKit Putlog

set_option maxRecDepth 100000 in
set_option maxHeartbeats 2000000 in
theorem pick_any (c n : Int) (h0 : -9223372036854775808 ≤ c) (h1 : c ≤ 9223372036854775807) (hn : 0 < n) (hn2 : n ≤ 9223372036854775807) (W : World) :
    Calls Try.prog 13 #[.int .i64 c, .int .i64 n] W fun e w' => e = .returned (.int .i64 (pkN c n)) ∧ W = w' := by
  unfold pkN
  by_cases h : c < 0
  · rw [if_pos h]
    obtain ⟨d, rfl⟩ : ∃ d, c = -d - 1 := ⟨-c - 1, by omega⟩
    have e1 : -(-d - 1 + 1) = d := by omega
    rw [e1]
    have e2 : IntKind.i64.wrap (-d - 1 + 1) = -d := by rw [IntKind.wrap_i64]; omega
    have e3 : wrap64 d = d := by unfold wrap64; omega
    have e4 : d.tmod n = d % n := Int.tmod_eq_emod_of_nonneg (by omega)
    have e5 : IntKind.i64.wrap (d % n) = d % n := by
      have := Int.emod_nonneg d (show n ≠ 0 by omega); have := Int.emod_lt_of_pos d hn
      rw [IntKind.wrap_i64]; omega
    obtain ⟨c2, hc2⟩ : ∃ c2, c2 = -d - 1 := ⟨_, rfl⟩
    rw [← hc2] at h e2 ⊢
    obtain ⟨r, hr⟩ : ∃ r, r = d % n := ⟨_, rfl⟩
    rw [← hr] at e4 e5 ⊢
    clear h0 h1 e1 hc2 hr
    go_enter Try.func13, Try.ntmps13
    go_wp2_with fail
    go_ret
    exact ⟨rfl, rfl⟩
  · rw [if_neg h]
    have h2 : 0 ≤ c := by omega
    have e4 : c.tmod n = c % n := Int.tmod_eq_emod_of_nonneg h2
    obtain ⟨r, hr⟩ : ∃ r, r = c % n := ⟨_, rfl⟩
    rw [← hr] at e4 ⊢
    clear h0 h1 h hr
    go_enter Try.func13, Try.ntmps13
    go_wp2_with fail
    go_ret
    exact ⟨rfl, rfl⟩
set_option maxRecDepth 100000 in
set_option maxHeartbeats 2000000 in
theorem rpick_any (c n : Int) (h0 : -9223372036854775808 ≤ c) (h1 : c ≤ 9223372036854775807) (hn : 0 < n) (hn2 : n ≤ 9223372036854775807) (W : World) :
    Calls Try.prog 27 #[.int .i64 c, .int .i64 n] W fun e w' => e = .returned (.int .i64 (pkN c n)) ∧ W = w' := by
  unfold pkN
  by_cases h : c < 0
  · rw [if_pos h]
    obtain ⟨d, rfl⟩ : ∃ d, c = -d - 1 := ⟨-c - 1, by omega⟩
    have e1 : -(-d - 1 + 1) = d := by omega
    rw [e1]
    have e2 : IntKind.i64.wrap (-d - 1 + 1) = -d := by rw [IntKind.wrap_i64]; omega
    have e3 : wrap64 d = d := by unfold wrap64; omega
    have e4 : d.tmod n = d % n := Int.tmod_eq_emod_of_nonneg (by omega)
    have e5 : IntKind.i64.wrap (d % n) = d % n := by
      have := Int.emod_nonneg d (show n ≠ 0 by omega); have := Int.emod_lt_of_pos d hn
      rw [IntKind.wrap_i64]; omega
    obtain ⟨c2, hc2⟩ : ∃ c2, c2 = -d - 1 := ⟨_, rfl⟩
    rw [← hc2] at h e2 ⊢
    obtain ⟨r, hr⟩ : ∃ r, r = d % n := ⟨_, rfl⟩
    rw [← hr] at e4 e5 ⊢
    clear h0 h1 e1 hc2 hr
    go_enter Try.func27, Try.ntmps27
    go_wp2_with fail
    go_ret
    exact ⟨rfl, rfl⟩
  · rw [if_neg h]
    have h2 : 0 ≤ c := by omega
    have e4 : c.tmod n = c % n := Int.tmod_eq_emod_of_nonneg h2
    obtain ⟨r, hr⟩ : ∃ r, r = c % n := ⟨_, rfl⟩
    rw [← hr] at e4 ⊢
    clear h0 h1 h hr
    go_enter Try.func27, Try.ntmps27
    go_wp2_with fail
    go_ret
    exact ⟨rfl, rfl⟩

theorem runs_snoc (d : Int) (r : Int) : ∀ (l : List Int) (t : Int), runs d (l ++ [r]) t = runs d l t + (pkN r (2 * d + 1) - d) * clamp (t - 100 * l.length)
  | [], t => by simp [runs]
  | x :: l, t => by
    rw [List.cons_append, runs, runs, runs_snoc d r l (t - 100), List.length_cons]
    rw [show t - 100 - 100 * (l.length : Int) = t - 100 * ((l.length + 1 : Nat) : Int) by omega]
    omega
theorem runs_off (d : Int) : ∀ (l : List Int) (t : Int), t ≤ 0 → runs d l t = 0
  | [], _, _ => rfl
  | x :: l, t, h => by
    rw [runs, runs_off d l (t - 100) (by omega), show clamp t = 0 by unfold clamp; omega]; simp
theorem runs_stop (d : Int) : ∀ (l : List Int) (k : Nat) (t : Int), t ≤ 100 * k → runs d l t = runs d (l.take k) t
  | [], k, t, _ => by simp
  | x :: l, 0, t, h => by rw [List.take_zero, runs_off d _ t (by omega)]; rfl
  | x :: l, k + 1, t, h => by
    rw [List.take_succ_cons, runs, runs, runs_stop d l k (t - 100) (by omega)]
theorem runs_small {d : Int} (h0 : 0 ≤ d) (h1 : d ≤ 100) (l : List Int) {t : Int} (ht : 0 ≤ t) : -(100 * t) ≤ runs d l t ∧ runs d l t ≤ 100 * t := by
  have h := runs_lip d h0 l ht
  rw [runs_off d l 0 (Int.le_refl _), show max 0 t - max 0 0 = t by omega] at h
  have h2 := Int.mul_le_mul_of_nonneg_right h1 ht
  omega

set_option maxRecDepth 100000 in
set_option maxHeartbeats 2000000 in
theorem shown_t (drift start t : Int) (rates : List Int) (v : Value) (w : World) (hd0 : I64 drift) (hs0 : I64 start) (ht0 : 0 ≤ t) (ht1 : t ≤ 5000) (h : NumsAt w v rates) (hr : ∀ x ∈ rates, I64 x) :
    Calls Try.prog 28 #[.int .i64 drift, .int .i64 start, v, .int .i64 t] w fun e w' => e = .returned (.int .i64 (shownC (pkN drift 101) (pkN start 1000) rates t)) ∧ w = w' := by
  obtain ⟨a, c, rfl, hc, hcb, hin⟩ := h
  have HI := Lib.hid hin
  have HR := Lib.hid hr
  have HP1 := Lib.hid (fun w => rpick_any drift 101 hd0.1 hd0.2 (by decide) (by decide) w)
  have HP2 := Lib.hid (fun w => rpick_any start 1000 hs0.1 hs0.2 (by decide) (by decide) w)
  obtain ⟨p1, p2⟩ := pkN_bounds drift (n := 101) (by decide)
  obtain ⟨p3, p4⟩ := pkN_bounds start (n := 1000) (by decide)
  obtain ⟨n, hn⟩ : ∃ n, n = rates.length := ⟨_, rfl⟩
  rw [← hn] at hc ⊢
  have HN := Lib.hid hn
  have hnb : (n : Int) ≤ 9223372036854775807 := by omega
  have HRES : Hid (shownC (pkN drift 101) (pkN start 1000) rates t = pkN start 1000 + ranC (pkN drift 101) rates t / 1000) := rfl
  rw [HRES.out]
  have d1 : pkN drift 101 ≤ 100 := by omega
  clear hin hr hd0 hs0 hn p2
  generalize pkN drift 101 = d at *
  generalize pkN start 1000 = s at *
  go_enter Try.func28, Try.ntmps28
  go_wp2_with fail
  refine (HP1.out _).mono ?_
  rintro e w1 ⟨rfl, rfl⟩
  go_wp2_with fail
  go_loop [10, 11] (fun u i => ∃ k : Nat, k ≤ n ∧ k ≤ 20 ∧ (k = 0 ∨ 100 * ((k : Int) - 1) < t) ∧ i = .int .i64 k ∧ u = .int .i64 (runs d (rates.take k) t)) (fun _ i => 20 - (intOf i).toNat)
  case atStart => exact ⟨0, Nat.zero_le _, by omega, .inl rfl, rfl, rfl⟩
  case round =>
    obtain ⟨k, hk, hk20, hkt, rfl, rfl⟩ := hrel
    have hb := runs_small p1 d1 (rates.take k) ht0
    by_cases hgo : k < n ∧ k < 20 ∧ 100 * (k : Int) < t
    · obtain ⟨h1, h2, h3⟩ := hgo
      have h1' : (k : Int) < n := by omega
      have h2' : (k : Int) < 20 := by omega
      have hkl : k < rates.length := by have := HN.out; omega
      obtain ⟨g, o, rfl, hcell⟩ := HI.out.get hkl
      have hmem : rates.getD k 0 ∈ rates := by rw [List.getD_eq_getElem?_getD, List.getElem?_eq_getElem hkl]; exact List.getElem_mem hkl
      have hxi := HR.out _ hmem
      have HT : Hid (runs d (rates.take (k + 1)) t = runs d (rates.take k) t + (pkN (rates.getD k 0) (2 * d + 1) - d) * clamp (t - 100 * k)) := by
        show _ = _
        rw [List.take_succ_eq_append_getElem hkl, runs_snoc, List.length_take, Nat.min_eq_left (by omega), List.getD_eq_getElem?_getD, List.getElem?_eq_getElem hkl]; rfl
      have hb1 := runs_small p1 d1 (rates.take (k + 1)) ht0
      have hcl : clamp (t - 100 * k) = min (t - 100 * (k : Int)) 100 := by unfold clamp; omega
      have HP := Lib.hid (fun w => rpick_any (rates.getD k 0) (2 * d + 1) hxi.1 hxi.2 (by omega) (by omega) w)
      have hpb := pkN_bounds (rates.getD k 0) (n := 2 * d + 1) (by omega)
      rw [hcl] at HT
      generalize rates.getD k 0 = x at *
      obtain ⟨m, hm⟩ : ∃ m, min (t - 100 * (k : Int)) 100 = m := ⟨_, rfl⟩
      have hm0 : 0 ≤ m := by omega
      have hm1 : m ≤ 100 := by omega
      rw [hm] at HT
      have hmi : (if 100 < t - 100 * (k : Int) then (100 : Int) else t - 100 * (k : Int)) = m := by split <;> omega
      clear hm
      generalize pkN x (2 * d + 1) = r at *
      obtain ⟨z, hz⟩ : ∃ z, (r - d) * m = z := ⟨_, rfl⟩
      have hz1 : -1000000 ≤ z := by have := HT.out; rw [hz] at this; omega
      have hz2 : z ≤ 1000000 := by have := HT.out; rw [hz] at this; omega
      rw [hz] at HT
      clear hmem hxi hcl hkl hb1
      generalize runs d (rates.take k) t = u at *
      go_wp2_with fail
      refine (HP.out _).mono ?_
      rintro e w1 ⟨rfl, rfl⟩
      go_wp2_with fail
      go_round
      case rel => exact ⟨k + 1, by omega, by omega, .inr (by omega), by go_num, by rw [HT.out]⟩
      case measure => simp [intOf]; omega
    · have HV : Hid (ranC d rates t = runs d (rates.take k) t + 1000 * t) := by
        show _ = _
        have : runs d (rates.take 20) t = runs d (rates.take k) t := by
          by_cases h1 : k < n
          · by_cases h2 : k < 20
            · have h3 : t ≤ 100 * (k : Int) := by omega
              rw [runs_stop d _ k t h3, List.take_take, Nat.min_eq_left (by omega)]
            · rw [show k = 20 by omega]
          · have := HN.out
            rw [List.take_of_length_le (by omega), List.take_of_length_le (by omega)]
        rw [ranC, this]
      have hpos := (ranC_nonneg p1 d1 rates ht0)
      rw [HV.out] at hpos
      obtain ⟨hp0, hp1⟩ := hpos
      generalize runs d (rates.take k) t = u at *
      by_cases h1 : k < n
      · have h1' : (k : Int) < n := by omega
        by_cases h2 : k < 20
        · have h2' : (k : Int) < 20 := by omega
          have h3 : t ≤ 100 * (k : Int) := by omega
          clear hgo hkt
          go_wp2_with fail
          refine (HP2.out _).mono ?_
          rintro e w1 ⟨rfl, rfl⟩
          go_wp2_with fail
          go_ret
          exact ⟨ret_int (by rw [HV.out]), rfl⟩
        · have h2' : (20 : Int) ≤ k := by omega
          clear hgo hkt h2
          go_wp2_with fail
          refine (HP2.out _).mono ?_
          rintro e w1 ⟨rfl, rfl⟩
          go_wp2_with fail
          go_ret
          exact ⟨ret_int (by rw [HV.out]), rfl⟩
      · have h1' : (n : Int) ≤ k := by omega
        clear hgo hkt h1
        go_wp2_with fail
        refine (HP2.out _).mono ?_
        rintro e w1 ⟨rfl, rfl⟩
        go_wp2_with fail
        go_ret
        exact ⟨ret_int (by rw [HV.out]), rfl⟩
end Go.Proofs.Ytiakjaglnjecgaa
