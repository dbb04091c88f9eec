/- WireTruncated: what the law's body answers. -/
import Derived.Test.YtlnbipldbbdnmaaDoorWireLaws
namespace Go.Proofs.YtlnbipldbbdnmaaDoor
open Go.RowKit Putlog

theorem prefix_other {m n : Int} (hm1 : -4611686018427387903 ≤ m) (hm2 : m ≤ 4611686018427387903) (hn1 : -4611686018427387903 ≤ n) (hn2 : n ≤ 4611686018427387903) {A B : ByteArray}
    (hA : (⟨(enc m).toArray⟩ : ByteArray) = A) (hB : (⟨(enc n).toArray⟩ : ByteArray) = B) (h : m ≠ n) : ((B.extract 0 A.size).toList == A.toList) = false := by
  rw [beq_eq_false_iff_ne]
  intro e
  apply h
  rw [ByteArray.toList_eq, ByteArray.toList_eq, extract_zero, ← hA, ← hB, ba_size] at e
  exact zig_inj (leb_prefix (zig_lt hm1 hm2) (zig_lt hn1 hn2) e)
theorem not_empty {s : ByteArray} (h : 1 ≤ s.size) : ¬ s = ByteArray.empty := by rintro rfl; simp at h
theorem size_ne {s : ByteArray} (h : 1 ≤ s.size) : ((s.size : Int) == 0) = false := by simp; rintro rfl; simp at h

set_option maxRecDepth 100000 in
set_option maxHeartbeats 2000000 in
theorem Truncated_calls (c d : Int) (t : ByteArray) (at' : Int) (w : World) (h0 : -9223372036854775808 ≤ c) (h1 : c ≤ 9223372036854775807) (h2 : -9223372036854775808 ≤ d) (h3 : d ≤ 9223372036854775807)
    (h4 : -9223372036854775808 ≤ at') (h5 : at' ≤ 9223372036854775807) (ht : t.size ≤ 9223372036854775807) (hT : TabAt w) :
    Calls Tryd.prog 7 #[.int .i64 c, .int .i64 d, .string t, .int .i64 at'] w fun e w' => e = .returned (.bool true) ∧ Below w.heap.size w w' := by
  have HT := Lib.hid hT
  have hm3 := min_int t.size 200
  have hn3 : min t.size 200 ≤ t.size := by omega
  have hn6 : min t.size 200 ≤ 200 := by omega
  generalize min t.size 200 = nt at *
  simp only [Int.cast_ofNat_Int] at hm3
  clear hT
  have hzc := numZ_bd c
  have hzd := numZ_bd d
  have NC := fun w => NumberFrom_any c w h0 h1
  have ND := fun w => NumberFrom_any d w h2 h3
  generalize numZ c = m at *
  generalize numZ d = n at *
  obtain ⟨hm1, hm2⟩ := hzc
  obtain ⟨hn1, hn2⟩ := hzd
  have HC := Lib.hid NC
  have HD := Lib.hid ND
  clear NC ND h0 h1 h2 h3
  have hmn : Hid (m = n ∨ m ≠ n) := by by_cases e : m = n; exact .inl e; exact .inr e
  go_enter Tryd.func7, Tryd.ntmps7
  go_wp2_with fail
  refine (sane_any _ HT.out).mono ?_; rintro e w1 ⟨rfl, hB⟩
  go_wp2_with fail
  refine (HC.out _).mono ?_; rintro e w2 ⟨rfl, hB2⟩
  replace hB := belowStep hB hB2; clear hB2
  go_wp2_with fail
  refine (PutInt_ok m _ hm1 hm2).mono ?_; rintro e w3 ⟨rfl, hB2⟩
  replace hB := belowStep hB hB2; clear hB2
  have he9 := enc_len_le hm1 hm2
  have hep := enc_len_pos m
  generalize hA : (⟨(enc m).toArray⟩ : ByteArray) = A
  have hAs : A.size ≤ 9 := by rw [← hA, ba_size]; exact he9
  have hAp : 1 ≤ A.size := by rw [← hA, ba_size]; exact hep
  have hA0 := not_empty hAp
  have hA1 := size_ne hAp
  have HA := Lib.hid hA
  clear hA he9 hep
  go_wp2_with fail
  refine (HD.out _).mono ?_; rintro e w2 ⟨rfl, hB2⟩
  replace hB := belowStep hB hB2; clear hB2
  go_wp2_with fail
  refine (PutInt_ok n _ hn1 hn2).mono ?_; rintro e w3 ⟨rfl, hB2⟩
  replace hB := belowStep hB hB2; clear hB2
  have he9 := enc_len_le hn1 hn2
  generalize hE : (⟨(enc n).toArray⟩ : ByteArray) = E
  have hEs : E.size ≤ 9 := by rw [← hE, ba_size]; exact he9
  have HE := Lib.hid hE
  clear hE he9
  go_wp2_with fail
  have hR : (t.extract 0 nt).size = nt := by simp; omega
  generalize t.extract 0 nt = R at *
  clear hm3 hn3 ht
  subst hR
  refine (PutString_ok R _ (by omega)).mono ?_; rintro e w4 ⟨rfl, hB2⟩
  replace hB := belowStep hB hB2; clear hB2
  have hl9 := enc_len_le (n := R.size) (by omega) (by omega)
  have hlp := enc_len_pos (R.size : Int)
  generalize hF : (⟨(enc R.size).toArray⟩ ++ R : ByteArray) = F
  have hFs : F.size ≤ 209 := by rw [← hF, ByteArray.size_append, ba_size]; omega
  have hFp : 1 ≤ F.size := by rw [← hF, ByteArray.size_append, ba_size]; omega
  have hF0 := not_empty hFp
  have hF1 := size_ne hFp
  have HF := Lib.hid hF
  clear hF hl9 hlp
  go_wp2_with fail
  have hp0 := pickZ_nonneg at' (n := (A.size : Int)) (by omega)
  have hp1 := pickZ_lt at' (n := (A.size : Int)) (by omega)
  refine (pick_any at' A.size _ h4 h5 (by omega) (by omega)).mono ?_; rintro e w' ⟨rfl, rfl⟩
  generalize pickZ at' (A.size : Int) = x at *
  obtain ⟨x, rfl⟩ := Int.eq_ofNat_of_zero_le hp0
  go_wp2_with fail
  refine (Int_short m hm1 hm2 x A HA.out (by omega) _).mono ?_; rintro e w' ⟨rfl, rfl⟩
  clear hp0 hp1
  go_wp2_with fail
  have hp0 := pickZ_nonneg at' (n := (F.size : Int)) (by omega)
  have hp1 := pickZ_lt at' (n := (F.size : Int)) (by omega)
  refine (pick_any at' F.size _ h4 h5 (by omega) (by omega)).mono ?_; rintro e w' ⟨rfl, rfl⟩
  generalize pickZ at' (F.size : Int) = y at *
  obtain ⟨y, rfl⟩ := Int.eq_ofNat_of_zero_le hp0
  go_wp2_with fail
  refine (String_short R (by omega) y F HF.out (by omega) _).mono ?_; rintro e w5 ⟨rfl, hB2⟩
  replace hB := belowStep hB hB2; clear hB2 hp0 hp1
  unfold strNo
  rcases hmn.out with rfl | hne
  · obtain rfl : A = E := HA.out.symm.trans HE.out
    go_wp2_with fail
    refine (HC.out _).mono ?_; rintro e w6 ⟨rfl, hB2⟩
    replace hB := belowStep hB hB2; clear hB2
    go_wp2_with fail
    refine (HD.out _).mono ?_; rintro e w7 ⟨rfl, hB2⟩
    replace hB := belowStep hB hB2; clear hB2
    go_wp2_with fail
    go_ret
    exact ⟨rfl, hB⟩
  · have hne2 : (m == n) = false := by simp [hne]
    have hpre := prefix_other hm1 hm2 hn1 hn2 HA.out HE.out hne
    by_cases hle : A.size ≤ E.size
    · have hle' : (A.size : Int) ≤ E.size := by omega
      clear hne hmn hle
      go_wp2_with fail
      refine (HC.out _).mono ?_; rintro e w6 ⟨rfl, hB2⟩
      replace hB := belowStep hB hB2; clear hB2
      go_wp2_with fail
      refine (HD.out _).mono ?_; rintro e w7 ⟨rfl, hB2⟩
      replace hB := belowStep hB hB2; clear hB2
      go_wp2_with fail
      go_ret
      exact ⟨rfl, hB⟩
    · have hle' : (E.size : Int) < A.size := by omega
      clear hne hmn hle hpre
      go_wp2_with fail
      refine (HC.out _).mono ?_; rintro e w6 ⟨rfl, hB2⟩
      replace hB := belowStep hB hB2; clear hB2
      go_wp2_with fail
      refine (HD.out _).mono ?_; rintro e w7 ⟨rfl, hB2⟩
      replace hB := belowStep hB hB2; clear hB2
      go_wp2_with fail
      go_ret
      exact ⟨rfl, hB⟩
end Go.Proofs.YtlnbipldbbdnmaaDoor
