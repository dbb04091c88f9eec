/- DigestBinding: what the law's body answers. -/
import Derived.BigQuiet
import Derived.Deep.QuietTactic
import Derived.Test.YtdhpighnkoamiaaDoorDigColl
namespace Go.Proofs.YtdhpighnkoamiaaDoor
open Go.RowKit Putlog

theorem few60 (f : Nat → ByteArray) (k j : Nat) : (getB (fewL f k) j).size ≤ 60 := fewL_mem (f := f) (k := k) j
theorem one_size (c : UInt8) : (⟨#[c]⟩ : ByteArray).size = 1 := rfl
theorem wayS_mem (ps : Nat → ByteArray) (hps : ∀ j, (ps j).size ≤ 60) (s : ByteArray) (hs : s.size ≤ 60) (m : Nat) : ∀ n i, ∀ x ∈ (wayS ps s n i m).1, x.size ≤ 1000000 := by
  induction m with
  | zero =>
    intro n i x hx
    rw [wayS_nil] at hx
    simp at hx; subst hx; rw [ByteArray.size_append, one_size]; omega
  | succ m ih =>
    intro n i x hx
    have h1 := hps m
    rcases Nat.lt_or_ge n 2 with h2 | h2
    · rw [wayS_one (by omega)] at hx
      simp at hx; subst hx; rw [ByteArray.size_append, one_size]; omega
    · rcases Nat.lt_or_ge i (half n) with h5 | h5
      · rw [wayS_left h2 h5] at hx
        rcases List.mem_cons.1 hx with rfl | hx
        · rw [ByteArray.size_append, ByteArray.size_append, one_size, wayS_size]; omega
        · exact ih _ _ x hx
      · rw [wayS_right h2 h5] at hx
        rcases List.mem_cons.1 hx with rfl | hx
        · rw [ByteArray.size_append, ByteArray.size_append, one_size, wayS_size]; omega
        · exact ih _ _ x hx
theorem getB_le (xs : List ByteArray) (n : Nat) (h : ∀ x ∈ xs, x.size ≤ n) (j : Nat) : (getB xs j).size ≤ n := by
  simp only [getB, List.getD_eq_getElem?_getD]
  cases e : xs[j]? with
  | none => simp
  | some x => exact h x (List.mem_of_getElem? e)
theorem verB_true {f : Nat → ByteArray} {root s : ByteArray} {n i : Int} {m : Nat} (h : verB f root s n i m = true) :
    ∃ N I : Nat, n = N ∧ i = I ∧ I < N ∧ (valueS f s N I m).2 = true ∧ (valueS f s N I m).1 = root := by
  rw [verB] at h
  split at h
  · rename_i h1
    obtain ⟨N, rfl⟩ := Int.eq_ofNat_of_zero_le (by omega : 0 ≤ n)
    obtain ⟨I, rfl⟩ := Int.eq_ofNat_of_zero_le (by omega : 0 ≤ i)
    rw [Int.toNat_natCast, Int.toNat_natCast, Bool.and_eq_true] at h
    exact ⟨N, I, rfl, rfl, by omega, h.1, toList_eq h.2⟩
  · cases h

set_option maxRecDepth 100000 in
set_option maxHeartbeats 8000000 in
theorem Binding_calls (root s t : ByteArray) (n i : Int) (f0 f1 : Nat → ByteArray) (n0 c0 n1 c1 : Nat) (a0 a1 : Option Addr) (w : World) (hn2 : n ≤ 9223372036854775807)
    (hf0 : ∀ j, j < n0 → (f0 j).size ≤ 9223372036854775807) (hn0 : (n0 : Int) ≤ 9223372036854775807) (hs0 : SliceAt w a0 f0 n0)
    (hf1 : ∀ j, j < n1 → (f1 j).size ≤ 9223372036854775807) (hn1 : (n1 : Int) ≤ 9223372036854775807) (hs1 : SliceAt w a1 f1 n1)
    (hss : (s.size : Int) ≤ 9223372036854775807) (htt : (t.size : Int) ≤ 9223372036854775807) (hT : TabAt w) :
    Calls Tryd.prog 8 #[.string root, .int .i64 n, .int .i64 i, .string s, .slice a0 n0 c0, .string t, .slice a1 n1 c1] w fun e w' => e = .returned (.bool true) ∧ Below w.heap.size w w' := by
  have HS := Lib.hid hs0
  have HS' := Lib.hid hs1
  have HF := Lib.hid hf0
  have HF' := Lib.hid hf1
  have HT := Lib.hid hT
  clear hs0 hs1 hf0 hf1 hT
  go_enter Tryd.func8, Tryd.ntmps8
  go_wp2_with fail
  refine (sane_any w HT.out).mono ?_
  rintro e w1 ⟨rfl, hB⟩
  have HB1 := Lib.hid hB
  have HT1 := Lib.hid (tabVia hB HT.out)
  have HS1 := Lib.hid (SliceAt.via hB HS.out)
  have HS1' := Lib.hid (SliceAt.via hB HS'.out)
  clear hB HS HT HS'
  go_wp2_with fail
  refine (few_any f0 n0 c0 70 a0 w1 HF.out hn0 (by omega) HS1.out).mono ?_
  intro e w2 hg
  obtain ⟨a2, c2, rfl, hc2, hc3, hs2, hsh, hB⟩ := hg
  have hN : (fewL f0 (min n0 70)).length ≤ 70 := by rw [fewL_len]; omega
  have hFs := few60 f0 (min n0 70)
  generalize fewL f0 (min n0 70) = xs at *
  have HB2 := Lib.hid (belowVia hB HB1.out)
  have HT2 := Lib.hid (tabVia hB HT1.out)
  have HS2 := Lib.hid hs2
  have HS2' := Lib.hid (SliceAt.via hB HS1'.out)
  have HFS := Lib.hid hFs
  have hN40 : (xs.length : Int) ≤ 70 := by omega
  clear hB hs2 hsh hFs HB1 HT1 HS1 HS1' HF hn0 hN
  go_wp2_with fail
  refine (few_any f1 n1 c1 70 a1 w2 HF'.out hn1 (by omega) HS2'.out).mono ?_
  intro e w3 hg
  obtain ⟨a3, c3, rfl, hc4, hc5, hs3, hsh, hB⟩ := hg
  have hM : (fewL f1 (min n1 70)).length ≤ 70 := by rw [fewL_len]; omega
  have hGs := few60 f1 (min n1 70)
  generalize fewL f1 (min n1 70) = ys at *
  have HB3 := Lib.hid (belowVia hB HB2.out)
  have HT3 := Lib.hid (tabVia hB HT2.out)
  have HS3 := Lib.hid (SliceAt.via hB HS2.out)
  have HS3' := Lib.hid hs3
  have HGS := Lib.hid hGs
  have hM40 : (ys.length : Int) ≤ 70 := by omega
  clear hB hs3 hsh hGs HB2 HT2 HS2 HS2' HF' hn1 hM
  have hmin : min (s.size : Int) 60 = ((min s.size 60 : Nat) : Int) := by omega
  have hms : ((min s.size 60 : Nat) : Int) ≤ s.size := by omega
  have hcut : (s.extract 0 (min s.size 60)).size ≤ 60 := by simp; omega
  generalize min s.size 60 = ms at *
  generalize hSe : s.extract 0 ms = S at *
  have hmin' : min (t.size : Int) 60 = ((min t.size 60 : Nat) : Int) := by omega
  have hmt : ((min t.size 60 : Nat) : Int) ≤ t.size := by omega
  have hcut' : (t.extract 0 (min t.size 60)).size ≤ 60 := by simp; omega
  generalize min t.size 60 = mt at *
  generalize hTe : t.extract 0 mt = T at *
  have HCS := Lib.hid hcut
  have HCT := Lib.hid hcut'
  clear hcut hcut'
  go_wp2_with fail
  have hV1 := verB_true (f := getB xs) (root := root) (s := S) (n := n) (i := i) (m := xs.length)
  have hC1 := Verify_any (getB xs) (fun j => by have := HFS.out j; omega) root S (by have := HCS.out; omega) n i xs.length c2 a2 w3 hn2 hc2 (by omega) HS3.out HT3.out
  generalize verB (getB xs) root S n i xs.length = r1 at *
  have HV1 := Lib.hid hV1
  refine hC1.mono ?_
  clear hC1 hV1
  rintro e w4 ⟨rfl, hB⟩
  have HB4 := Lib.hid (belowVia hB HB3.out)
  have HT4 := Lib.hid (tabVia hB HT3.out)
  have HS4 := Lib.hid (SliceAt.via hB HS3.out)
  have HS4' := Lib.hid (SliceAt.via hB HS3'.out)
  clear hB HB3 HT3 HS3 HS3'
  go_wp2_with fail
  have hV2 := verB_true (f := getB ys) (root := root) (s := T) (n := n) (i := i) (m := ys.length)
  have hC2 := Verify_any (getB ys) (fun j => by have := HGS.out j; omega) root T (by have := HCT.out; omega) n i ys.length c3 a3 w4 hn2 hc4 (by omega) HS4'.out HT4.out
  generalize verB (getB ys) root T n i ys.length = r2 at *
  have HV2 := Lib.hid hV2
  refine hC2.mono ?_
  clear hC2 hV2
  rintro e w5 ⟨rfl, hB⟩
  have HB5 := Lib.hid (belowVia hB HB4.out)
  have HT5 := Lib.hid (tabVia hB HT4.out)
  have HS5 := Lib.hid (SliceAt.via hB HS4.out)
  have HS5' := Lib.hid (SliceAt.via hB HS4'.out)
  clear hB HB4 HT4 HS4 HS4'
  cases r1 with
  | false =>
    go_wp2_with fail
    go_ret
    exact ⟨rfl, HB5.out⟩
  | true =>
    cases r2 with
    | false =>
      go_wp2_with fail
      go_ret
      exact ⟨rfl, HB5.out⟩
    | true =>
      cases hst : (S.toList == T.toList) with
      | true =>
        go_wp2_with fail
        go_ret
        exact ⟨rfl, HB5.out⟩
      | false =>
        have hne := toList_ne hst
        obtain ⟨N, I, rfl, rfl, hI, hv1, hv1'⟩ := HV1.out rfl
        obtain ⟨N2, I2, hN2, hI2, _, hv2, hv2'⟩ := HV2.out rfl
        obtain rfl : N = N2 := by omega
        obtain rfl : I = I2 := by omega
        have hw1 := way_value (getB xs) S N N I xs.length (Nat.le_refl _) hv1
        have hw2 := way_value (getB ys) T N N I ys.length (Nat.le_refl _) hv2
        have hco := way_binds (getB xs) (getB ys) S T hne N N I xs.length ys.length (Nat.le_refl _) hv1 hv2 (by rw [hw1, hw2, hv1', hv2'])
        have HW1 := Lib.hid (way_any (getB xs) HFS.out S HCS.out xs.length N I c2 a2 w5 hn2 hI hc2 (by omega) HS5.out HT5.out)
        have HW2 := Lib.hid (fun w h1 h2 => way_any (getB ys) HGS.out T HCT.out ys.length N I c3 a3 w hn2 hI hc4 (by omega) h1 h2)
        have hl1 := (wayS_len (getB xs) S xs.length N I).2
        have hl2 := (wayS_len (getB ys) T ys.length N I).2
        have hm1 := getB_le _ _ (wayS_mem (getB xs) HFS.out S HCS.out xs.length N I)
        have hm2 := getB_le _ _ (wayS_mem (getB ys) HGS.out T HCT.out ys.length N I)
        generalize wayS (getB xs) S N I xs.length = A at *
        generalize wayS (getB ys) T N I ys.length = B at *
        obtain ⟨A, va⟩ := A
        obtain ⟨B, vb⟩ := B
        simp only at HW1 HW2 hl1 hl2 hm1 hm2 hco
        have HCO := Lib.hid hco
        have HM1 := Lib.hid hm1
        have HM2 := Lib.hid hm2
        have hA : (A.length : Int) ≤ 1000000 := by omega
        have hBl : (B.length : Int) ≤ 1000000 := by omega
        have hI' : (I : Int) < N := by omega
        clear HV1 HV2 hne hv1 hv1' hv2 hv2' hw1 hw2 hco hl1 hl2 hm1 hm2 hN2 hI2 hI
        go_wp2_with fail
        refine HW1.out.mono ?_
        rintro e w6 ⟨u1, rfl, a6, c6, rfl, h61, h62, h63, hB⟩
        have HB6 := Lib.hid (belowVia hB HB5.out)
        have HT6 := Lib.hid (tabVia hB HT5.out)
        have HS6' := Lib.hid (SliceAt.via hB HS5'.out)
        have HA6 : Hid (SliceAt w6 a6 (getB A) A.length) := h63
        clear hB h63 h62 HB5 HT5 HS5 HS5' HW1
        go_wp2_with fail
        refine (HW2.out _ HS6'.out HT6.out).mono ?_
        rintro e w7 ⟨u2, rfl, a7, c7, rfl, h71, h72, h73, hB⟩
        have HB7 := Lib.hid (belowVia hB HB6.out)
        have HT7 := Lib.hid (tabVia hB HT6.out)
        have HA7 := Lib.hid (SliceAt.via hB HA6.out)
        have HA7' : Hid (SliceAt w7 a7 (getB B) B.length) := h73
        clear hB h73 h72 HB6 HT6 HS6' HA6 HW2
        go_wp2_with fail
        refine (collide_any A B HM1.out HM2.out a6 a7 c6 c7 w7 hA hBl HA7.out HA7'.out HT7.out).mono ?_
        rintro e w8 ⟨r, rfl, hr, hB⟩
        obtain rfl := hr HCO.out
        have HB8 := Lib.hid (belowVia hB HB7.out)
        clear hB hr
        go_wp2_with fail
        go_ret
        exact ⟨rfl, HB8.out⟩
end Go.Proofs.YtdhpighnkoamiaaDoor
