/- IntegerLimits' body: nines, pick. -/
import Derived.Test.YtggkbeppfpgkaaaDoorIntCommon
namespace Go.Proofs.YtggkbeppfpgkaaaDoor
open Go.RowKit Putlog

def ninesB (k : Nat) : ByteArray := ⟨(List.replicate k (57 : UInt8)).toArray⟩
theorem ninesB_size (k : Nat) : (ninesB k).size = k := by show (List.replicate k (57 : UInt8)).toArray.size = k; simp
theorem ninesB_succ (k : Nat) : ninesB k ++ (⟨#[57]⟩ : ByteArray) = ninesB (k + 1) := by
  apply ByteArray.ext
  simp [ninesB, ByteArray.data_append, List.replicate_succ', ← List.push_toArray]
set_option maxRecDepth 100000 in
set_option maxHeartbeats 4000000 in
theorem nines_any (n : Nat) (hn : n ≤ 1000) (w : World) :
    Calls Tryd.prog 23 #[.int .i64 n] w fun e w' => e = .returned (.string (ninesB n)) ∧ w' = w := by
  have hnb : (n : Int) ≤ 1000 := by omega
  go_enter Tryd.func23, Tryd.ntmps23
  go_wp2_with fail
  go_loopw [3, 4] (fun v i wr => ∃ k : Nat, k ≤ n ∧ i = .int .i64 k ∧ v = .string (ninesB k) ∧ wr = w) (fun _ i _ => n - (intOf i).toNat)
  case atStart => exact ⟨0, by omega, rfl, rfl, rfl⟩
  case round =>
    obtain ⟨k, hk, rfl, rfl, rfl⟩ := hrel
    by_cases hlt : k < n
    · have hlt' : (k : Int) < n := by omega
      have hs : ((ninesB k).size : Int) ≤ 1000 := by rw [ninesB_size]; omega
      have HS := Lib.hid (ninesB_succ k)
      generalize ninesB k = s at *
      go_wp2_with fail
      exact ⟨⟨k + 1, by omega, by go_num, by rw [HS.out], trivial⟩, by simp [intOf]; omega⟩
    · obtain rfl : k = n := by omega
      go_wp2_with fail
      go_ret
      exact ⟨rfl, rfl⟩
/-- The numbers of nines. -/
theorem leV_nines : ∀ k : Nat, leV 10 (List.replicate k 9) = 10 ^ k - 1
  | 0 => rfl
  | k + 1 => by
    rw [List.replicate_succ, leV, leV_nines k, Nat.pow_succ]
    have : 0 < 10 ^ k := Nat.pow_pos (by decide)
    omega
theorem decT_nines (k : Nat) : decT (List.replicate k 57) = List.replicate k 9 := by simp [decT]
theorem nines_nat {k : Nat} (hk : 1 ≤ k) : natT (10 ^ k - 1) = List.replicate k 57 := by
  have h := natT_natV (l := List.replicate k 57) (fun c hc => by obtain ⟨_, rfl⟩ := List.mem_replicate.1 hc; exact ⟨by decide, by decide⟩) (by intro e; have := congrArg List.length e; simp at this; omega) (.inr (by
    obtain ⟨j, rfl⟩ : ∃ j, k = j + 1 := ⟨k - 1, by omega⟩
    simp [List.replicate_succ]))
  rwa [natV, decT_nines, leV_nines] at h
theorem one_nat (k : Nat) : natT (2 * 10 ^ k - 1) = 49 :: List.replicate k 57 := by
  have h := natT_natV (l := 49 :: List.replicate k 57) (fun c hc => by
    rcases List.mem_cons.1 hc with rfl | hc
    · exact ⟨by decide, by decide⟩
    · obtain ⟨_, rfl⟩ := List.mem_replicate.1 hc; exact ⟨by decide, by decide⟩) (by simp) (.inr (by simp))
  have hd : decT (49 :: List.replicate k 57) = List.replicate k 9 ++ [1] := by simp [decT]
  have hv : natV (49 :: List.replicate k 57) = 2 * 10 ^ k - 1 := by
    have : 0 < 10 ^ k := Nat.pow_pos (by decide)
    rw [natV, hd, leV_snoc, leV_nines, List.length_replicate]; omega
  rwa [hv] at h
theorem intT_nat (n : Nat) : intT (n : Int) = natT n := by unfold intT; rw [if_neg (by omega), Int.natAbs_natCast]
theorem nines_int {k : Nat} (hk : 1 ≤ k) : ninesB k = intB ((10 ^ k - 1 : Nat) : Int) := by
  unfold intB ninesB; rw [intT_nat, nines_nat hk]
theorem one_nines (k : Nat) : (⟨#[49]⟩ : ByteArray) ++ ninesB k = intB ((2 * 10 ^ k - 1 : Nat) : Int) := by
  unfold intB; rw [intT_nat, one_nat]; exact ba_cons 49 _
theorem minus_nines {k : Nat} (hk : 1 ≤ k) : (⟨#[45]⟩ : ByteArray) ++ ninesB k = intB (-((10 ^ k - 1 : Nat) : Int)) := by
  have hp : 10 ^ 1 ≤ 10 ^ k := Nat.pow_le_pow_right (by decide) hk
  unfold intB intT
  rw [if_pos (by omega), show (-((10 ^ k - 1 : Nat) : Int)).natAbs = 10 ^ k - 1 by omega, nines_nat hk]
  exact ba_cons 45 _
/-- The product of a power of ten and a one with nines. -/
theorem prod_fits (m n : Nat) : Fits (((10 ^ m : Nat) : Int) * ((2 * 10 ^ n - 1 : Nat) : Int)) ↔ m + n < 200 := by
  have h1 : (((10 ^ m : Nat) : Int) * ((2 * 10 ^ n - 1 : Nat) : Int)).natAbs = 10 ^ m * (2 * 10 ^ n - 1) := by rw [← Int.natCast_mul, Int.natAbs_natCast]
  show _ < 10 ^ 200 ↔ _
  rw [h1]
  have hn : 0 < 10 ^ n := Nat.pow_pos (by decide)
  have hm : 0 < 10 ^ m := Nat.pow_pos (by decide)
  constructor
  · intro h
    refine Nat.lt_of_not_le fun hk => ?_
    have h2 : 10 ^ m * 10 ^ n ≤ 10 ^ m * (2 * 10 ^ n - 1) := Nat.mul_le_mul_left _ (by omega)
    rw [← Nat.pow_add] at h2
    have h3 : 10 ^ 200 ≤ 10 ^ (m + n) := Nat.pow_le_pow_right (by decide) hk
    omega
  · intro h
    have h2 : 10 ^ m * (2 * 10 ^ n - 1) < 10 ^ m * (10 ^ n * 10) := Nat.mul_lt_mul_of_pos_left (by omega) hm
    rw [← Nat.pow_succ, ← Nat.pow_add] at h2
    have h3 : 10 ^ (m + (n + 1)) ≤ 10 ^ 200 := Nat.pow_le_pow_right (by decide) (by omega)
    exact Nat.lt_of_lt_of_le h2 h3
theorem prod_size (m n : Nat) : (intB (((10 ^ m : Nat) : Int) * ((2 * 10 ^ n - 1 : Nat) : Int))).size = m + n + 1 := by
  have h1 : ((10 ^ m : Nat) : Int) * ((2 * 10 ^ n - 1 : Nat) : Int) = ((10 ^ m * (2 * 10 ^ n - 1) : Nat) : Int) := by rw [Int.natCast_mul]
  have hn : 0 < 10 ^ n := Nat.pow_pos (by decide)
  have hm : 0 < 10 ^ m := Nat.pow_pos (by decide)
  rw [h1]
  show (intT _).toArray.size = _
  rw [List.size_toArray, intT_nat]
  have h2 : 10 ^ m * (2 * 10 ^ n - 1) < 10 ^ m * (10 ^ n * 10) := Nat.mul_lt_mul_of_pos_left (by omega) hm
  rw [← Nat.pow_succ, ← Nat.pow_add] at h2
  have h3 : 10 ^ m * 10 ^ n ≤ 10 ^ m * (2 * 10 ^ n - 1) := Nat.mul_le_mul_left _ (by omega)
  rw [← Nat.pow_add] at h3
  have h4 := (natT_len (10 ^ m * (2 * 10 ^ n - 1)) (m + (n + 1)) (by omega)).2 h2
  rcases Nat.eq_zero_or_pos (m + n) with h0 | h0
  · have := List.length_pos_iff.2 (natT_ne (10 ^ m * (2 * 10 ^ n - 1)))
    omega
  · have h5 := (natT_len (10 ^ m * (2 * 10 ^ n - 1)) (m + n) h0)
    have : ¬ (natT (10 ^ m * (2 * 10 ^ n - 1))).length ≤ m + n := fun k => by have := h5.1 k; omega
    omega
set_option maxRecDepth 100000 in
set_option maxHeartbeats 4000000 in
theorem pick_any (c : Int) (n : Nat) (h0 : -9223372036854775808 ≤ c) (h1 : c ≤ 9223372036854775807) (hn : n = 200) (w : World) :
    Calls Tryd.prog 24 #[.int .i64 c, .int .i64 (n : Nat)] w fun e w' => (∃ k : Nat, e = .returned (.int .i64 (k : Nat)) ∧ k < n) ∧ w' = w := by
  rcases (show c < 0 ∨ 0 ≤ c by omega) with h | h
  · obtain ⟨d, hd⟩ : ∃ d : Nat, -(c + 1) = (d : Nat) := ⟨(-(c + 1)).toNat, by omega⟩
    have hm : (d : Int).tmod 200 = ((d % 200 : Nat) : Int) := by rw [Int.tmod_eq_emod_of_nonneg (by omega)]; omega
    have hdb : (d : Int) ≤ 9223372036854775807 := by omega
    subst hn
    go_enter Tryd.func24, Tryd.ntmps24
    go_wp2_with fail
    go_ret
    exact ⟨⟨_, rfl, Nat.mod_lt _ (by decide)⟩, rfl⟩
  · obtain ⟨d, rfl⟩ := Int.eq_ofNat_of_zero_le h
    have hm : (d : Int).tmod 200 = ((d % 200 : Nat) : Int) := by rw [Int.tmod_eq_emod_of_nonneg (by omega)]; omega
    subst hn
    go_enter Tryd.func24, Tryd.ntmps24
    go_wp2_with fail
    go_ret
    exact ⟨⟨_, rfl, Nat.mod_lt _ (by decide)⟩, rfl⟩
theorem pick200 (c : Int) (h0 : -9223372036854775808 ≤ c) (h1 : c ≤ 9223372036854775807) (w : World) :
    Calls Tryd.prog 24 #[.int .i64 c, .int .i64 200] w fun e w' => (∃ k : Nat, e = .returned (.int .i64 (k : Nat)) ∧ k < 200) ∧ w' = w := by
  have := pick_any c 200 h0 h1 rfl w
  exact this
theorem fits_max {T : Nat} (hT : T = 10 ^ 200) {z : Int} : Fits z ↔ z.natAbs < T := by rw [hT]; exact Iff.rfl
theorem okS_no {z : Int} (h : ¬ Fits z) : okS z = ⟨#[]⟩ := if_neg h
theorem okE_no {z : Int} (h : ¬ Fits z) : okE z = 30 := if_neg h
theorem nines201 : ninesB 200 ++ (⟨#[57]⟩ : ByteArray) = intB ((10 ^ 201 - 1 : Nat) : Int) := by rw [ninesB_succ, nines_int (by decide)]
theorem nofit201 : ¬ Fits ((10 ^ 201 - 1 : Nat) : Int) := by
  show ¬ (_ : Nat) < 10 ^ 200
  rw [Int.natAbs_natCast]
  decide +kernel
theorem big201 : ((10 ^ 201 - 1 : Nat) : Int).natAbs < 10000 ^ 250 := by
  rw [Int.natAbs_natCast]
  have h1 : 10 ^ 201 ≤ 10 ^ (4 * 51) := Nat.pow_le_pow_right (by decide) (by decide)
  rw [Nat.pow_mul] at h1
  have h2 : (10 ^ 4) ^ 51 ≤ (10 ^ 4) ^ 250 := Nat.pow_le_pow_right (by decide) (by decide)
  exact Nat.lt_of_lt_of_le (Nat.sub_lt (Nat.pow_pos (by decide)) (by decide)) (Nat.le_trans h1 h2)
set_option maxRecDepth 100000 in
set_option maxHeartbeats 20000000 in
theorem Limits_calls (a : ByteArray) (m n : Int) (w : World) (ha : (a.size : Int) ≤ 9223372036854775807) (hm0 : -9223372036854775808 ≤ m) (hm1 : m ≤ 9223372036854775807) (hn0 : -9223372036854775808 ≤ n) (hn1 : n ≤ 9223372036854775807) :
    Calls Tryd.prog 10 #[.string a, .int .i64 m, .int .i64 n] w fun e w' => e = .returned (.bool true) ∧ Below w.heap.size w w' := by
  have HPM := Lib.hid (pick200 m hm0 hm1)
  have HPN := Lib.hid (pick200 n hn0 hn1)
  clear hm0 hm1 hn0 hn1
  go_enter Tryd.func10, Tryd.ntmps10
  go_wp2_with fail
  refine (sane_any w).mono ?_
  rintro e w1 ⟨rfl, hB⟩
  have HB1 := Lib.hid hB
  clear hB
  go_wp2_with fail
  refine (rmade_any a 5 w1 ha (by omega)).mono ?_
  rintro e w2 ⟨⟨x, rfl, hx⟩, hB⟩
  have HB2 := Lib.hid (belowVia hB HB1.out)
  clear hB HB1
  have Fx := fits_of hx (by decide)
  obtain ⟨T, hT⟩ : ∃ T : Nat, T = 10 ^ 200 := ⟨_, rfl⟩
  have hTb : 10 ^ 5 ≤ T := by rw [hT]; exact Nat.pow_le_pow_right (by decide) (by decide)
  obtain ⟨M, hM⟩ : ∃ M : Int, M = ((10 ^ 200 - 1 : Nat) : Int) := ⟨_, rfl⟩
  have hMT : M = (T : Int) - 1 := by rw [hM, ← hT]; omega
  obtain ⟨mo, hmo⟩ : ∃ mo, mo = ninesB 200 := ⟨_, rfl⟩
  have hmi : mo = intB M := by rw [hmo, hM]; exact nines_int (by decide)
  have hmn : (⟨#[45]⟩ : ByteArray) ++ mo = intB (-M) := by rw [hmo, hM]; exact minus_nines (by decide)
  have hm9 : mo ++ (⟨#[57]⟩ : ByteArray) = intB ((10 ^ 201 - 1 : Nat) : Int) := by rw [hmo]; exact nines201
  have FM : Fits M := (fits_max hT).2 (by omega)
  have FN : Fits (-M) := (fits_max hT).2 (by omega)
  have hms : (mo.size : Int) = 200 := by rw [hmo, ninesB_size]; rfl
  have C3 := Lib.hid (nines_any 200 (by decide))
  rw [← hmo] at C3
  have C4 := Lib.hid (fun W => add_ok M x FM Fx W)
  have C5 := Lib.hid (fun W => sub_ok (-M) x FN Fx W)
  have C13 := Lib.hid (fun W => c_cmp api x 0 _ W Fx (by decide) rfl)
  rw [intB_zero] at C13
  have C14 := Lib.hid (fun W => validB ((10 ^ 201 - 1 : Nat) : Int) big201 W)
  rw [decide_eq_false nofit201, ← hm9] at C14
  have C15 := Lib.hid (fun W => validB (-M) (fits250 FN) W)
  rw [decide_eq_true FN, ← hmn] at C15
  rw [← hmi] at C4
  rw [← hmn] at C5
  have hsum : Fits (M + x) ↔ x ≤ 0 := by
    rw [fits_max hT]; omega
  have hdif : Fits (-M - x) ↔ x ≤ 0 := by
    rw [fits_max hT]; omega
  clear hmo hM hMT hT hmi hmn hm9 FM FN hTb
  go_wp2_with fail
  refine (C3.out w2).mono ?_
  rintro e w3 ⟨rfl, rfl⟩
  clear C3
  obtain ⟨s4, e4, hs4⟩ : ∃ s4 e4, okS (M + x) = s4 ∧ okE (M + x) = e4 := ⟨_, _, rfl, rfl⟩
  obtain ⟨s5, e5, hs5⟩ : ∃ s5 e5, okS (-M - x) = s5 ∧ okE (-M - x) = e5 := ⟨_, _, rfl, rfl⟩
  have hx0 : x = 0 ∨ x < 0 ∨ 0 < x := by omega
  have C4' : Hid (∀ W, Calls Tryd.prog 14 #[.string mo, .string (intB x)] W (GivesInt s4 e4 W)) := by rw [← hs4.1, ← hs4.2]; exact C4.out
  have C5' : Hid (∀ W, Calls Tryd.prog 15 #[.string ((⟨#[45]⟩ : ByteArray) ++ mo), .string (intB x)] W (GivesInt s5 e5 W)) := by rw [← hs5.1, ← hs5.2]; exact C5.out
  have HS : Hid ((0 < x ∧ s4 = ⟨#[]⟩ ∧ e4 = 30 ∧ s5 = ⟨#[]⟩ ∧ e5 = 30) ∨ (¬ 0 < x ∧ e4 = 0 ∧ e5 = 0)) := by
    show _ ∨ _
    by_cases h : 0 < x
    · left
      have h4 : ¬ Fits (M + x) := fun k => by have := hsum.1 k; omega
      have h5 : ¬ Fits (-M - x) := fun k => by have := hdif.1 k; omega
      exact ⟨h, by rw [← hs4.1, okS_no h4], by rw [← hs4.2, okE_no h4], by rw [← hs5.1, okS_no h5], by rw [← hs5.2, okE_no h5]⟩
    · right
      exact ⟨h, by rw [← hs4.2, okE_fits (hsum.2 (by omega))], by rw [← hs5.2, okE_fits (hdif.2 (by omega))]⟩
  clear C4 C5 hsum hdif hs4 hs5
  go_wp2_with fail
  refine (C4'.out _).mono ?_
  rintro e w4 ⟨rfl, hB⟩
  have HB4 := Lib.hid (belowVia hB HB2.out)
  clear hB HB2 C4'
  go_wp2_with fail
  refine (C5'.out _).mono ?_
  rintro e w5 ⟨rfl, hB⟩
  have HB5 := Lib.hid (belowVia hB HB4.out)
  clear hB HB4 C5'
  go_wp2_with fail
  refine (HPM.out _).mono ?_
  rintro e w6 ⟨⟨i, rfl, hi⟩, rfl⟩
  go_wp2_with fail
  refine (HPN.out _).mono ?_
  rintro e w7 ⟨⟨j, rfl, hj⟩, rfl⟩
  clear HPM HPN
  have hib : (i : Int) < 200 := by omega
  have hjb : (j : Int) < 200 := by omega
  have C8 := Lib.hid (nines_any i (by omega))
  have C11 := Lib.hid (nines_any j (by omega))
  have F10 : Fits ((10 ^ i : Nat) : Int) := by
    show _ < 10 ^ 200
    rw [Int.natAbs_natCast]; exact Nat.pow_lt_pow_right (by decide) hi
  have F2 : Fits ((2 * 10 ^ j - 1 : Nat) : Int) := by
    show _ < 10 ^ 200
    rw [Int.natAbs_natCast]
    have : 10 ^ (j + 1) ≤ 10 ^ 200 := Nat.pow_le_pow_right (by decide) hj
    have h3 : 0 < 10 ^ j := Nat.pow_pos (by decide)
    rw [Nat.pow_succ] at this; omega
  have C12 := Lib.hid (fun W => mul_ok ((10 ^ i : Nat) : Int) ((2 * 10 ^ j - 1 : Nat) : Int) F10 F2 W)
  have hpf := prod_fits i j
  have hps := prod_size i j
  rw [← one_nines j] at C12
  obtain ⟨nj, hnj⟩ : ∃ nj, nj = ninesB j := ⟨_, rfl⟩
  have hnjs : (nj.size : Int) ≤ 200 := by rw [hnj, ninesB_size]; omega
  obtain ⟨ni, hni⟩ : ∃ ni, ni = ninesB i := ⟨_, rfl⟩
  rw [← hnj] at C11 C12
  rw [← hni] at C8
  obtain ⟨oi, hoi⟩ : ∃ oi, oi = intB ((10 ^ i : Nat) : Int) := ⟨_, rfl⟩
  rw [← hoi] at C12
  have C9 : Hid ((i = 0 → (∀ W, Calls Tryd.prog 14 #[.string ni, .string ⟨#[49]⟩] W (GivesInt ⟨#[]⟩ 30 W)) ∧ (∀ W, Calls Tryd.prog 14 #[.string ⟨#[48]⟩, .string ⟨#[49]⟩] W (GivesInt oi 0 W))) ∧ (i ≠ 0 → ∀ W, Calls Tryd.prog 14 #[.string ni, .string ⟨#[49]⟩] W (GivesInt oi 0 W))) := by
    refine And.intro ?_ ?_
    · intro h0
      subst h0
      refine ⟨fun W => ?_, fun W => ?_⟩
      · rw [hni]
        exact add_any _ _ _ _ W (comb_no _ _ _ W (both_no1 _ _ (by rw [ninesB_size]; decide) (by decide +kernel) W))
      · have h := add_ok 0 1 (by decide) f_p1 W
        rw [show (0 : Int) + 1 = 1 by decide, okS_fits f_p1, okE_fits f_p1, intB_zero, b_p1] at h
        rw [hoi, show ((10 ^ 0 : Nat) : Int) = 1 by decide, b_p1]
        exact h
    · intro h0 W
      have hp : 0 < 10 ^ i := Nat.pow_pos (by decide)
      have hF : Fits ((10 ^ i - 1 : Nat) : Int) := by
        have := F10
        show _ < 10 ^ 200
        have h2 : (((10 ^ i : Nat) : Int)).natAbs < 10 ^ 200 := F10
        rw [Int.natAbs_natCast] at h2 ⊢; omega
      have h := add_ok ((10 ^ i - 1 : Nat) : Int) 1 hF f_p1 W
      rw [show ((10 ^ i - 1 : Nat) : Int) + 1 = ((10 ^ i : Nat) : Int) by omega, okS_fits F10, okE_fits F10, b_p1, ← nines_int (by omega), ← hni, ← hoi] at h
      exact h
  obtain ⟨pr, er, hpr⟩ : ∃ pr er, okS (((10 ^ i : Nat) : Int) * ((2 * 10 ^ j - 1 : Nat) : Int)) = pr ∧ okE (((10 ^ i : Nat) : Int) * ((2 * 10 ^ j - 1 : Nat) : Int)) = er := ⟨_, _, rfl, rfl⟩
  rw [hpr.1, hpr.2] at C12
  have HR : Hid ((i + j < 200 ∧ er = 0 ∧ (pr.size : Int) = (i : Int) + j + 1) ∨ (¬ i + j < 200 ∧ er = 30 ∧ pr = ⟨#[]⟩)) := by
    show _ ∨ _
    by_cases h : i + j < 200
    · left
      have hf := hpf.2 h
      refine ⟨h, by rw [← hpr.2, okE_fits hf], ?_⟩
      rw [← hpr.1, okS_fits hf, hps]; omega
    · right
      have hf : ¬ Fits (((10 ^ i : Nat) : Int) * ((2 * 10 ^ j - 1 : Nat) : Int)) := fun k => h (hpf.1 k)
      exact ⟨h, by rw [← hpr.2, okE_no hf], by rw [← hpr.1, okS_no hf]⟩
  clear hpf hps hnj hni hoi hpr F10 F2 Fx hx hi hj
  rcases HS.out with ⟨hx1, rfl, rfl, rfl, rfl⟩ | ⟨hx1, rfl, rfl⟩
  · have K := Lib.hid (show cmpI x 0 = 1 by unfold cmpI; rw [if_neg (by omega), if_pos (by omega)])
    rw [K.out] at C13
    clear HS hx1 hx0 K
    rcases HR.out with ⟨hsm, rfl, hps⟩ | ⟨hsm, rfl, rfl⟩
    · have hsm' : decide ((i : Int) + (j : Int) < 200) = true := by simp; omega
      clear HR hsm
      rcases Nat.eq_zero_or_pos i with rfl | hi0
      · skip
        have C9a := Lib.hid (C9.out.1 rfl).1
        have C9b := Lib.hid (C9.out.1 rfl).2
        clear C9
        go_wp2_with fail
        refine (C8.out _).mono ?_
        rintro e v1 ⟨rfl, rfl⟩
        go_wp2_with fail
        refine (C9a.out _).mono ?_
        rintro e v2 ⟨rfl, hB⟩
        have HB6 := Lib.hid (belowVia hB HB5.out)
        clear hB HB5
        go_wp2_with fail
        refine (C9b.out _).mono ?_
        rintro e v3 ⟨rfl, hB⟩
        have HB7 := Lib.hid (belowVia hB HB6.out)
        clear hB HB6
        go_wp2_with fail
        refine (C11.out _).mono ?_
        rintro e v4 ⟨rfl, rfl⟩
        go_wp2_with fail
        refine (C12.out _).mono ?_
        rintro e v5 ⟨rfl, hB⟩
        have HB8 := Lib.hid (belowVia hB HB7.out)
        clear hB HB7
        go_wp2_with fail
        refine (C13.out _).mono ?_
        rintro e v6 ⟨rfl, hB⟩
        have HB9 := Lib.hid (belowVia hB HB8.out)
        clear hB HB8
        go_wp2_with fail
        refine (C14.out _).mono ?_
        rintro e v7 ⟨rfl, rfl⟩
        go_wp2_with fail
        refine (C15.out _).mono ?_
        rintro e v8 ⟨rfl, rfl⟩
        go_wp2_with fail
        go_ret
        exact ⟨rfl, HB9.out⟩
      · skip
        have hi1 : ((i : Int) == 0) = false := by simp; omega
        have C9a : Hid (∀ W, Calls Tryd.prog 14 #[.string ni, .string ⟨#[49]⟩] W (GivesInt oi 0 W)) := by
          exact C9.out.2 (by omega)
        clear C9 hi0
        go_wp2_with fail
        refine (C8.out _).mono ?_
        rintro e v1 ⟨rfl, rfl⟩
        go_wp2_with fail
        refine (C9a.out _).mono ?_
        rintro e v2 ⟨rfl, hB⟩
        have HB6 := Lib.hid (belowVia hB HB5.out)
        clear hB HB5
        go_wp2_with fail
        refine (C11.out _).mono ?_
        rintro e v4 ⟨rfl, rfl⟩
        go_wp2_with fail
        refine (C12.out _).mono ?_
        rintro e v5 ⟨rfl, hB⟩
        have HB7 := Lib.hid (belowVia hB HB6.out)
        clear hB HB6
        go_wp2_with fail
        refine (C13.out _).mono ?_
        rintro e v6 ⟨rfl, hB⟩
        have HB8 := Lib.hid (belowVia hB HB7.out)
        clear hB HB7
        go_wp2_with fail
        refine (C14.out _).mono ?_
        rintro e v7 ⟨rfl, rfl⟩
        go_wp2_with fail
        refine (C15.out _).mono ?_
        rintro e v8 ⟨rfl, rfl⟩
        go_wp2_with fail
        go_ret
        exact ⟨rfl, HB8.out⟩
    · have hsm' : decide ((i : Int) + (j : Int) < 200) = false := by simp; omega
      have HI0 : Hid (0 < i) := by show 0 < i; omega
      clear HR hsm
      rcases Nat.eq_zero_or_pos i with rfl | hi0
      · exfalso; exact absurd HI0.out (Nat.lt_irrefl _)
      · skip
        have hi1 : ((i : Int) == 0) = false := by simp; omega
        have C9a : Hid (∀ W, Calls Tryd.prog 14 #[.string ni, .string ⟨#[49]⟩] W (GivesInt oi 0 W)) := by
          exact C9.out.2 (by omega)
        clear C9 hi0
        go_wp2_with fail
        refine (C8.out _).mono ?_
        rintro e v1 ⟨rfl, rfl⟩
        go_wp2_with fail
        refine (C9a.out _).mono ?_
        rintro e v2 ⟨rfl, hB⟩
        have HB6 := Lib.hid (belowVia hB HB5.out)
        clear hB HB5
        go_wp2_with fail
        refine (C11.out _).mono ?_
        rintro e v4 ⟨rfl, rfl⟩
        go_wp2_with fail
        refine (C12.out _).mono ?_
        rintro e v5 ⟨rfl, hB⟩
        have HB7 := Lib.hid (belowVia hB HB6.out)
        clear hB HB6
        go_wp2_with fail
        refine (C13.out _).mono ?_
        rintro e v6 ⟨rfl, hB⟩
        have HB8 := Lib.hid (belowVia hB HB7.out)
        clear hB HB7
        go_wp2_with fail
        refine (C14.out _).mono ?_
        rintro e v7 ⟨rfl, rfl⟩
        go_wp2_with fail
        refine (C15.out _).mono ?_
        rintro e v8 ⟨rfl, rfl⟩
        go_wp2_with fail
        go_ret
        exact ⟨rfl, HB8.out⟩
  · obtain ⟨k, hk⟩ : ∃ k, cmpI x 0 = k := ⟨_, rfl⟩
    have hk1 : ¬ (0 : Int) < k := by rw [← hk]; unfold cmpI; split <;> (try split) <;> omega
    rw [hk] at C13
    clear HS hx1 hx0 hk
    rcases HR.out with ⟨hsm, rfl, hps⟩ | ⟨hsm, rfl, rfl⟩
    · have hsm' : decide ((i : Int) + (j : Int) < 200) = true := by simp; omega
      clear HR hsm
      rcases Nat.eq_zero_or_pos i with rfl | hi0
      · skip
        have C9a := Lib.hid (C9.out.1 rfl).1
        have C9b := Lib.hid (C9.out.1 rfl).2
        clear C9
        go_wp2_with fail
        refine (C8.out _).mono ?_
        rintro e v1 ⟨rfl, rfl⟩
        go_wp2_with fail
        refine (C9a.out _).mono ?_
        rintro e v2 ⟨rfl, hB⟩
        have HB6 := Lib.hid (belowVia hB HB5.out)
        clear hB HB5
        go_wp2_with fail
        refine (C9b.out _).mono ?_
        rintro e v3 ⟨rfl, hB⟩
        have HB7 := Lib.hid (belowVia hB HB6.out)
        clear hB HB6
        go_wp2_with fail
        refine (C11.out _).mono ?_
        rintro e v4 ⟨rfl, rfl⟩
        go_wp2_with fail
        refine (C12.out _).mono ?_
        rintro e v5 ⟨rfl, hB⟩
        have HB8 := Lib.hid (belowVia hB HB7.out)
        clear hB HB7
        go_wp2_with fail
        refine (C13.out _).mono ?_
        rintro e v6 ⟨rfl, hB⟩
        have HB9 := Lib.hid (belowVia hB HB8.out)
        clear hB HB8
        go_wp2_with fail
        refine (C14.out _).mono ?_
        rintro e v7 ⟨rfl, rfl⟩
        go_wp2_with fail
        refine (C15.out _).mono ?_
        rintro e v8 ⟨rfl, rfl⟩
        go_wp2_with fail
        go_ret
        exact ⟨rfl, HB9.out⟩
      · skip
        have hi1 : ((i : Int) == 0) = false := by simp; omega
        have C9a : Hid (∀ W, Calls Tryd.prog 14 #[.string ni, .string ⟨#[49]⟩] W (GivesInt oi 0 W)) := by
          exact C9.out.2 (by omega)
        clear C9 hi0
        go_wp2_with fail
        refine (C8.out _).mono ?_
        rintro e v1 ⟨rfl, rfl⟩
        go_wp2_with fail
        refine (C9a.out _).mono ?_
        rintro e v2 ⟨rfl, hB⟩
        have HB6 := Lib.hid (belowVia hB HB5.out)
        clear hB HB5
        go_wp2_with fail
        refine (C11.out _).mono ?_
        rintro e v4 ⟨rfl, rfl⟩
        go_wp2_with fail
        refine (C12.out _).mono ?_
        rintro e v5 ⟨rfl, hB⟩
        have HB7 := Lib.hid (belowVia hB HB6.out)
        clear hB HB6
        go_wp2_with fail
        refine (C13.out _).mono ?_
        rintro e v6 ⟨rfl, hB⟩
        have HB8 := Lib.hid (belowVia hB HB7.out)
        clear hB HB7
        go_wp2_with fail
        refine (C14.out _).mono ?_
        rintro e v7 ⟨rfl, rfl⟩
        go_wp2_with fail
        refine (C15.out _).mono ?_
        rintro e v8 ⟨rfl, rfl⟩
        go_wp2_with fail
        go_ret
        exact ⟨rfl, HB8.out⟩
    · have hsm' : decide ((i : Int) + (j : Int) < 200) = false := by simp; omega
      have HI0 : Hid (0 < i) := by show 0 < i; omega
      clear HR hsm
      rcases Nat.eq_zero_or_pos i with rfl | hi0
      · exfalso; exact absurd HI0.out (Nat.lt_irrefl _)
      · skip
        have hi1 : ((i : Int) == 0) = false := by simp; omega
        have C9a : Hid (∀ W, Calls Tryd.prog 14 #[.string ni, .string ⟨#[49]⟩] W (GivesInt oi 0 W)) := by
          exact C9.out.2 (by omega)
        clear C9 hi0
        go_wp2_with fail
        refine (C8.out _).mono ?_
        rintro e v1 ⟨rfl, rfl⟩
        go_wp2_with fail
        refine (C9a.out _).mono ?_
        rintro e v2 ⟨rfl, hB⟩
        have HB6 := Lib.hid (belowVia hB HB5.out)
        clear hB HB5
        go_wp2_with fail
        refine (C11.out _).mono ?_
        rintro e v4 ⟨rfl, rfl⟩
        go_wp2_with fail
        refine (C12.out _).mono ?_
        rintro e v5 ⟨rfl, hB⟩
        have HB7 := Lib.hid (belowVia hB HB6.out)
        clear hB HB6
        go_wp2_with fail
        refine (C13.out _).mono ?_
        rintro e v6 ⟨rfl, hB⟩
        have HB8 := Lib.hid (belowVia hB HB7.out)
        clear hB HB7
        go_wp2_with fail
        refine (C14.out _).mono ?_
        rintro e v7 ⟨rfl, rfl⟩
        go_wp2_with fail
        refine (C15.out _).mono ?_
        rintro e v8 ⟨rfl, rfl⟩
        go_wp2_with fail
        go_ret
        exact ⟨rfl, HB8.out⟩
end Go.Proofs.YtggkbeppfpgkaaaDoor
