/- DigestExtensionBinding: what the law's body answers. -/
import Derived.BigQuiet
import Derived.Deep.QuietTactic
import Derived.Test.YtdhpighnkoamiaaDoorDigSides
import Derived.Test.YtdhpighnkoamiaaDoorDigBinding
namespace Go.Proofs.YtdhpighnkoamiaaDoor
open Go.RowKit Putlog

theorem sidesS_mem (ps : Nat → ByteArray) (hps : ∀ j, (ps j).size ≤ 60) (old : ByteArray) (ho : old.size ≤ 60) (q : Nat) : ∀ m n whole, 1 ≤ m → m ≤ n → ∀ x ∈ (sidesS ps old m n q whole).1, x.size ≤ 1000000 := by
  induction q with
  | zero => intro m n whole h1 h2 x hx; rw [sidesS_end (.inr rfl) (.inr rfl)] at hx; cases hx
  | succ q ih =>
    intro m n whole h1 h2 x hx
    have h3 := hps q
    by_cases hm : m = n
    · subst hm
      cases whole
      · rw [sidesS_one (Nat.le_refl _) (by omega)] at hx; cases hx
      · rw [sidesS_end (.inl (Nat.le_refl _)) (.inl rfl)] at hx; cases hx
    · have h4 := half_lt (n := n) (by omega)
      rcases Nat.lt_or_ge (half n) m with h5 | h5
      · rw [sidesS_right (by omega) h5] at hx
        have h6 := sidesS_le ps old hps ho q (m - half n) (n - half n) false
        rcases List.mem_cons.1 hx with rfl | hx
        · rw [ByteArray.size_append, ByteArray.size_append, one_size]; omega
        · exact ih _ _ _ (by omega) (by omega) x hx
      · rw [sidesS_left (by omega) h1 h5] at hx
        have h6 := sidesS_le ps old hps ho q m (half n) whole
        rcases List.mem_cons.1 hx with rfl | hx
        · rw [ByteArray.size_append, ByteArray.size_append, one_size]; omega
        · exact ih _ _ _ h1 h5 x hx
theorem extB_true {f : Nat → ByteArray} {old root : ByteArray} {m n : Int} {q : Nat} (h : extB f old root m n q = true) :
    (m = 0 ∧ old = shaB ByteArray.empty) ∨ ∃ M N : Nat, m = M ∧ n = N ∧ 1 ≤ M ∧ M ≤ N ∧ old.size = 32 ∧ (∀ j, j < q → (f j).size = 32) ∧ (twoS f old M N q true).2.2 = true ∧ (twoS f old M N q true).1 = old ∧ (twoS f old M N q true).2.1 = root := by
  rw [extB] at h
  split at h
  · rename_i h1
    obtain ⟨h1, h2, h3, h4, h5⟩ := h1
    split at h
    · rename_i h6
      rw [Bool.and_eq_true] at h
      exact .inl ⟨h6, toList_eq h.2⟩
    · obtain ⟨M, rfl⟩ := Int.eq_ofNat_of_zero_le h1
      obtain ⟨N, rfl⟩ := Int.eq_ofNat_of_zero_le (by omega : 0 ≤ n)
      rw [Int.toNat_natCast, Int.toNat_natCast, Bool.and_eq_true, Bool.and_eq_true] at h
      exact .inr ⟨M, N, rfl, rfl, by omega, by omega, h3, fun j hj => by have := digB_get h5 j hj; rwa [Nat.zero_add] at this, h.1.1, toList_eq h.1.2, toList_eq h.2⟩
  · cases h

set_option maxRecDepth 100000 in
set_option maxHeartbeats 8000000 in
theorem ExtBinding_calls (root s t : ByteArray) (m n : Int) (f0 f1 : Nat → ByteArray) (n0 c0 n1 c1 : Nat) (a0 a1 : Option Addr) (w : World) (hn2 : n ≤ 9223372036854775807)
    (hf0 : ∀ j, j < n0 → (f0 j).size ≤ 9223372036854775807) (hn0 : (n0 : Int) ≤ 9223372036854775807) (hs0 : SliceAt w a0 f0 n0)
    (hf1 : ∀ j, j < n1 → (f1 j).size ≤ 9223372036854775807) (hn1 : (n1 : Int) ≤ 9223372036854775807) (hs1 : SliceAt w a1 f1 n1) (hT : TabAt w) :
    Calls Tryd.prog 10 #[.string s, .slice a0 n0 c0, .string t, .slice a1 n1 c1, .int .i64 m, .string root, .int .i64 n] w fun e w' => e = .returned (.bool true) ∧ Below w.heap.size w w' := by
  have HS := Lib.hid hs0
  have HS' := Lib.hid hs1
  have HF := Lib.hid hf0
  have HF' := Lib.hid hf1
  have HT := Lib.hid hT
  clear hs0 hs1 hf0 hf1 hT
  go_enter Tryd.func10, Tryd.ntmps10
  go_wp2_with fail
  refine (sane_any w HT.out).mono ?_
  rintro e w1 ⟨rfl, hB⟩
  have HB1 := Lib.hid hB
  have HT1 := Lib.hid (tabVia hB HT.out)
  have HS1 := Lib.hid (SliceAt.via hB HS.out)
  have HS1' := Lib.hid (SliceAt.via hB HS'.out)
  clear hB HS HT HS'
  go_wp2_with fail
  refine (few_any f0 n0 c0 70 a0 w1 HF.out hn0 (by omega) HS1.out).mono ?_
  intro e w2 hg
  obtain ⟨a2, c2, rfl, hc2, hc3, hs2, hsh, hB⟩ := hg
  have hN : (fewL f0 (min n0 70)).length ≤ 70 := by rw [fewL_len]; omega
  have hFs := few60 f0 (min n0 70)
  generalize fewL f0 (min n0 70) = xs at *
  have HB2 := Lib.hid (belowVia hB HB1.out)
  have HT2 := Lib.hid (tabVia hB HT1.out)
  have HS2 := Lib.hid hs2
  have HS2' := Lib.hid (SliceAt.via hB HS1'.out)
  have HFS := Lib.hid hFs
  have hN40 : (xs.length : Int) ≤ 70 := by omega
  clear hB hs2 hsh hFs HB1 HT1 HS1 HS1' HF hn0 hN
  go_wp2_with fail
  refine (few_any f1 n1 c1 70 a1 w2 HF'.out hn1 (by omega) HS2'.out).mono ?_
  intro e w3 hg
  obtain ⟨a3, c3, rfl, hc4, hc5, hs3, hsh, hB⟩ := hg
  have hM : (fewL f1 (min n1 70)).length ≤ 70 := by rw [fewL_len]; omega
  have hGs := few60 f1 (min n1 70)
  generalize fewL f1 (min n1 70) = ys at *
  have HB3 := Lib.hid (belowVia hB HB2.out)
  have HT3 := Lib.hid (tabVia hB HT2.out)
  have HS3 := Lib.hid (SliceAt.via hB HS2.out)
  have HS3' := Lib.hid hs3
  have HGS := Lib.hid hGs
  have hM40 : (ys.length : Int) ≤ 70 := by omega
  clear hB hs3 hsh hGs HB2 HT2 HS2 HS2' HF' hn1 hM
  go_wp2_with fail
  have hV1 := extB_true (f := getB xs) (old := s) (root := root) (n := n) (m := m) (q := xs.length)
  have hC1 := VerifyExtension_any (getB xs) (fun j => by have := HFS.out j; omega) s root m n xs.length c2 a2 w3 hn2 hc2 (by omega) HS3.out HT3.out
  generalize extB (getB xs) s root m n xs.length = r1 at *
  have HV1 := Lib.hid hV1
  refine hC1.mono ?_
  clear hC1 hV1
  rintro e w4 ⟨rfl, hB⟩
  have HB4 := Lib.hid (belowVia hB HB3.out)
  have HT4 := Lib.hid (tabVia hB HT3.out)
  have HS4 := Lib.hid (SliceAt.via hB HS3.out)
  have HS4' := Lib.hid (SliceAt.via hB HS3'.out)
  clear hB HB3 HT3 HS3 HS3'
  go_wp2_with fail
  have hV2 := extB_true (f := getB ys) (old := t) (root := root) (n := n) (m := m) (q := ys.length)
  have hC2 := VerifyExtension_any (getB ys) (fun j => by have := HGS.out j; omega) t root m n ys.length c3 a3 w4 hn2 hc4 (by omega) HS4'.out HT4.out
  generalize extB (getB ys) t root m n ys.length = r2 at *
  have HV2 := Lib.hid hV2
  refine hC2.mono ?_
  clear hC2 hV2
  rintro e w5 ⟨rfl, hB⟩
  have HB5 := Lib.hid (belowVia hB HB4.out)
  have HT5 := Lib.hid (tabVia hB HT4.out)
  have HS5 := Lib.hid (SliceAt.via hB HS4.out)
  have HS5' := Lib.hid (SliceAt.via hB HS4'.out)
  clear hB HB4 HT4 HS4 HS4'
  cases r1 with
  | false =>
    go_wp2_with fail
    go_ret
    exact ⟨rfl, HB5.out⟩
  | true =>
    cases r2 with
    | false =>
      go_wp2_with fail
      go_ret
      exact ⟨rfl, HB5.out⟩
    | true =>
      cases hst : (s.toList == t.toList) with
      | true =>
        go_wp2_with fail
        go_ret
        exact ⟨rfl, HB5.out⟩
      | false =>
        have hne := toList_ne hst
        rcases HV1.out rfl with ⟨h0, h1⟩ | ⟨M, N, rfl, rfl, h1, hMN, ho1, hp1, hv1, hv1', hv1''⟩
        · rcases HV2.out rfl with ⟨_, h2⟩ | ⟨M2, _, hM2, _, h2, _⟩
          · exact absurd (h1.trans h2.symm) hne
          · omega
        · rcases HV2.out rfl with ⟨h0, _⟩ | ⟨M2, N2, hM2, hN2, _, _, ho2, hp2, hv2, hv2', hv2''⟩
          · omega
          · obtain rfl : M = M2 := by omega
            obtain rfl : N = N2 := by omega
            have hw1 := sides_value (getB xs) s N M N xs.length true (Nat.le_refl _) h1 hMN hv1
            have hw2 := sides_value (getB ys) t N M N ys.length true (Nat.le_refl _) h1 hMN hv2
            have hco := sides_binds (getB xs) (getB ys) s t ho1 ho2 N M N xs.length ys.length true (Nat.le_refl _) h1 hMN hp1 hp2 hv1 hv2 (by rw [hw1, hw2, hv1'', hv2'']) (by rw [hv1', hv2']; exact hne)
            have HW1 := Lib.hid (sides_any (getB xs) HFS.out s (by omega) xs.length M N c2 true a2 w5 h1 hMN hn2 hc2 (by omega) HS5.out HT5.out)
            have HW2 := Lib.hid (fun w h3 h4 => sides_any (getB ys) HGS.out t (by omega) ys.length M N c3 true a3 w h1 hMN hn2 hc4 (by omega) h3 h4)
            have hl1 := sidesS_len (getB xs) s xs.length M N true h1 hMN
            have hl2 := sidesS_len (getB ys) t ys.length M N true h1 hMN
            have hm1 := getB_le _ _ (sidesS_mem (getB xs) HFS.out s (by omega) xs.length M N true h1 hMN)
            have hm2 := getB_le _ _ (sidesS_mem (getB ys) HGS.out t (by omega) ys.length M N true h1 hMN)
            generalize sidesS (getB xs) s M N xs.length true = A at *
            generalize sidesS (getB ys) t M N ys.length true = B at *
            obtain ⟨A, va⟩ := A
            obtain ⟨B, vb⟩ := B
            simp only at HW1 HW2 hl1 hl2 hm1 hm2 hco
            have HCO := Lib.hid hco
            have HM1 := Lib.hid hm1
            have HM2 := Lib.hid hm2
            have hA : (A.length : Int) ≤ 1000000 := by omega
            have hBl : (B.length : Int) ≤ 1000000 := by omega
            clear HV1 HV2 hne hv1 hv1' hv1'' hv2 hv2' hv2'' hw1 hw2 hco hl1 hl2 hm1 hm2 hN2 hM2 ho1 ho2 hp1 hp2 h1 hMN
            go_wp2_with fail
            refine HW1.out.mono ?_
            rintro e w6 ⟨u1, rfl, a6, c6, rfl, h61, h62, h63, hB⟩
            have HB6 := Lib.hid (belowVia hB HB5.out)
            have HT6 := Lib.hid (tabVia hB HT5.out)
            have HS6' := Lib.hid (SliceAt.via hB HS5'.out)
            have HA6 : Hid (SliceAt w6 a6 (getB A) A.length) := h63
            clear hB h63 h62 HB5 HT5 HS5 HS5' HW1
            go_wp2_with fail
            refine (HW2.out _ HS6'.out HT6.out).mono ?_
            rintro e w7 ⟨u2, rfl, a7, c7, rfl, h71, h72, h73, hB⟩
            have HB7 := Lib.hid (belowVia hB HB6.out)
            have HT7 := Lib.hid (tabVia hB HT6.out)
            have HA7 := Lib.hid (SliceAt.via hB HA6.out)
            have HA7' : Hid (SliceAt w7 a7 (getB B) B.length) := h73
            clear hB h73 h72 HB6 HT6 HS6' HA6 HW2
            go_wp2_with fail
            refine (collide_any A B HM1.out HM2.out a6 a7 c6 c7 w7 hA hBl HA7.out HA7'.out HT7.out).mono ?_
            rintro e w8 ⟨r, rfl, hr, hB⟩
            obtain rfl := hr HCO.out
            have HB8 := Lib.hid (belowVia hB HB7.out)
            clear hB hr
            go_wp2_with fail
            go_ret
            exact ⟨rfl, HB8.out⟩
end Go.Proofs.YtdhpighnkoamiaaDoor
