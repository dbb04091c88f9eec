/- DigestSplit: what the law's body answers. -/
import Derived.BigQuiet
import Derived.Deep.QuietTactic
import Derived.Test.YtdhpighnkoamiaaDoorDigExtAcc
import Derived.Test.YtdhpighnkoamiaaDoorDigAppend
namespace Go.Proofs.YtdhpighnkoamiaaDoor
open Go.RowKit Putlog

theorem getB_app_left (xs : List ByteArray) (t : ByteArray) {j : Nat} (h : j < xs.length) : getB (xs ++ [t]) j = getB xs j := getB_left h
theorem root_app (xs : List ByteArray) (t : ByteArray) : rootS (getB (xs ++ [t])) 0 xs.length = rootS (getB xs) 0 xs.length :=
  rootS_congr xs.length xs.length 0 (Nat.le_refl _) (fun j _ h => getB_app_left xs t (by omega))
theorem getB_app_size (xs : List ByteArray) (t : ByteArray) (h : ∀ j, (getB xs j).size ≤ 140737488355327) (ht : t.size ≤ 60) (j : Nat) : (getB (xs ++ [t]) j).size ≤ 140737488355327 := by
  rcases Nat.lt_or_ge j xs.length with h1 | h1
  · rw [getB_app_left xs t h1]; exact h j
  · rcases Nat.lt_or_ge xs.length j with h2 | h2
    · have : getB (xs ++ [t]) j = ByteArray.empty := by simp [getB, List.getD_eq_getElem?_getD, List.getElem?_eq_none (show (xs ++ [t]).length ≤ j by simp; omega)]
      rw [this]; simp
    · obtain rfl : j = xs.length := by omega
      rw [getB_last]; omega

set_option maxRecDepth 100000 in
set_option maxHeartbeats 8000000 in
theorem Split_calls (f : Nat → ByteArray) (n c : Nat) (a : Option Addr) (s : ByteArray) (w : World) (hf : ∀ j, j < n → (f j).size ≤ 9223372036854775807) (hn : (n : Int) ≤ 9223372036854775807) (hss : (s.size : Int) ≤ 9223372036854775807) (hs : SliceAt w a f n) (hT : TabAt w) :
    Calls Tryd.prog 11 #[.slice a n c, .string s] w fun e w' => e = .returned (.bool true) ∧ Below w.heap.size w w' := by
  have HS := Lib.hid hs
  have HF := Lib.hid hf
  have HT := Lib.hid hT
  clear hs hf hT
  go_enter Tryd.func11, Tryd.ntmps11
  go_wp2_with fail
  refine (sane_any w HT.out).mono ?_
  rintro e w1 ⟨rfl, hB⟩
  have HB1 := Lib.hid hB
  have HT1 := Lib.hid (HT.out.below hB HT.out.size)
  have HS1 := Lib.hid (HS.out.below hB)
  clear hB HS HT
  go_wp2_with fail
  refine (few_any f n c 40 a w1 HF.out hn (by omega) HS1.out).mono ?_
  intro e w2 hg
  obtain ⟨a2, c2, rfl, hc2, hc3, hs2, hsh, hB⟩ := hg
  have hN : (fewL f (min n 40)).length ≤ 40 := by rw [fewL_len]; omega
  have hFs := few_sz f (min n 40)
  generalize fewL f (min n 40) = xs at *
  have HB2 := Lib.hid (HB1.out.trans (hB.mono HB1.out.size))
  have HT2 := Lib.hid (HT1.out.below hB HT1.out.size)
  have HS2 := Lib.hid hs2
  have HFS := Lib.hid hFs
  have hN40 : (xs.length : Int) ≤ 40 := by omega
  clear hB hs2 hsh hFs HB1 HT1 HS1 HF hn hN
  have hmin : min (s.size : Int) 60 = ((min s.size 60 : Nat) : Int) := by omega
  have hms : ((min s.size 60 : Nat) : Int) ≤ s.size := by omega
  have hcut : (s.extract 0 (min s.size 60)).size ≤ 60 := by simp; omega
  generalize min s.size 60 = ms at *
  obtain ⟨i0, hi0, hz0, hz1, hz2⟩ := info_parts info9
  have HI0 := Lib.hid hi0
  have HZ0 := Lib.hid hz0
  have HZ1 := Lib.hid hz1
  have HZ2 := Lib.hid hz2
  have b1 : 0 + xs.length ≤ maxLen := by unfold maxLen; omega
  have b2' : (0 + xs.length) * 16 ≤ 140737488355328 := by omega
  have b4 : 0 + xs.length + 1 ≤ maxLen := by unfold maxLen; omega
  have b5 : (0 + xs.length + 1) * 16 ≤ 140737488355328 := by omega
  have B1 := Lib.hid b1
  have B2 := Lib.hid b2'
  have B4 := Lib.hid b4
  have B5 := Lib.hid b5
  have HB0 := Lib.hid ((Below.refl w2.heap.size w2).alloc (Nat.le_refl _) (.cells #[] 9))
  have HO0 : Hid ((w2.alloc (.cells #[] 9)).ownsRow w2.heap.size 9 1 (.slice (some ⟨w2.heap.size, 0, none⟩) 0 0) 0 []) := Lib.hid (World.ownsRow_lit w2 #[] 0 (Nat.le_refl _) (by decide) rfl)
  clear hi0 hz0 hz1 hz2 b1 b2' b4 b5
  generalize hx : s.extract 0 ms = x at *
  obtain ⟨zs, hzs⟩ : ∃ zs, zs = xs ++ [x] := ⟨_, rfl⟩
  have HZS := Lib.hid hzs
  have HHX := Lib.hid hx
  have HCU := Lib.hid hcut
  clear hzs hcut
  go_wp2_with (first
    | (at_builtin; refine wpList_append_sl rfl _ _ 26 rfl w2.heap.size 9 i0 (.string ⟨#[]⟩) 16 Tryd.underlying26 HI0.out HZ0.out HZ1.out HZ2.out rfl (.slice (some ⟨w2.heap.size, 0, none⟩) 0 0) 0 [] (by rfl) HO0.out a2 c2 xs (by rfl) (HS2.out.below HB0.out) B1.out B2.out HB0.out.size ?_; intro v1 w5 hown5 hgrow5; have hB5 := belowGrown HB0.out HO0.out hgrow5)
    | (at_builtin; refine wpList_append_own _ rfl _ _ 26 rfl w2.heap.size 9 i0 (.string ⟨#[]⟩) 1 16 Tryd.underlying26 HI0.out HZ0.out HZ1.out HZ2.out rfl (by decide) v1 (0 + xs.length) ([] ++ xs.map Value.string) (by rfl) (hown5.alloc _) ⟨w5.heap.size, 0, none⟩ 1 1 [.string x] (by rfl) rfl (news_one w5 x 9) (one_one x) B4.out B5.out (hB5.alloc hB5.size _).size ?_; intro v2 w6 hown6 hgrow6 _; have hB6 := belowGrown (hB5.alloc hB5.size _) (hown5.alloc _) hgrow6; obtain ⟨a5, c5, rfl, hc5, hc6, hs5, hsh5⟩ := ownsRow_slice (xs := zs) (ownsRow_snoc HZS.out hown6)))
  have hFz := getB_app_size xs x HFS.out HCU.out
  have hr0 := root_app xs x
  rw [← HZS.out] at hFz hr0
  have hzl : zs.length = xs.length + 1 := by rw [HZS.out]; simp
  have hlast : getB zs xs.length = x := by rw [HZS.out, getB_last]
  have hs5' : SliceAt w6 a5 (getB zs) zs.length := hs5
  have HB6 := Lib.hid (HB2.out.trans (hB6.mono HB2.out.size))
  have HT6 := Lib.hid (HT2.out.below hB6 HT2.out.size)
  have HS6 := Lib.hid (HS2.out.below hB6)
  have HSx6 := Lib.hid hs5'
  have HL := Lib.hid hlast
  have HR0 := Lib.hid hr0
  have HFX := Lib.hid HFS.out
  have HSH : Hid ((a5 = none ∧ c5 = 0) ∨ ∃ g, a5 = some ⟨g, 0, none⟩) := hsh5.imp id (fun ⟨g, _, h⟩ => ⟨g, h⟩)
  clear hB5 hB6 hown5 hgrow5 hown6 hgrow6 hs5 hs5' hsh5 HB2 HT2 HS2 HFS HB0 HO0 B1 B2 B4 B5 hlast hr0 HCU
  generalize getB zs = F at *
  generalize getB xs = G at *
  generalize zs.length = L at *
  generalize xs.length = N at *
  have hL40 : (L : Int) ≤ 41 := by omega
  have HX := Lib.hid (Extension_ok F hFz L c5 a5 N w6 (by omega) hc5 hc6 (by omega) HSx6.out HT6.out)
  have hok := extB_ok F (m := N) (n := L) (by omega)
  have hsz := ext_size F L N
  have hlb := ext_lenb F (n := L) (m := N) (by omega)
  have HFZ := Lib.hid hFz
  have HZL := Lib.hid hzl
  generalize extS F L N = ys at *
  have hy : (ys.length : Int) ≤ 41 := by omega
  generalize hyl : ys.length = Y at *
  have HYL := Lib.hid hyl
  have HOK := Lib.hid hok
  have HSZ := Lib.hid hsz
  clear hFz hok hsz hlb hyl hzl
  refine HX.out.mono ?_
  intro e w7 hg
  obtain ⟨v, rfl, a7, c7, rfl, h71, h72, h73, hB⟩ := hg
  rw [HYL.out] at h71 ⊢
  have HB7 := Lib.hid (HB6.out.trans (hB.mono HB6.out.size))
  have HT7 := Lib.hid (HT6.out.below hB HT6.out.size)
  have HS7 := Lib.hid (HS6.out.below hB)
  have HSx7 := Lib.hid (HSx6.out.below hB)
  have HX7 := Lib.hid h73
  clear hB h73 HB6 HT6 HS6 HSx6 HX h72
  go_wp2_with fail
  refine (Root_sl G HFX.out N c2 a2 w7 (by omega) hc2 hc3 HS7.out HT7.out).mono ?_
  rintro e w8 ⟨rfl, hB⟩
  have HB8 := Lib.hid (HB7.out.trans (hB.mono HB7.out.size))
  have HT8 := Lib.hid (HT7.out.below hB HT7.out.size)
  have HS8 := Lib.hid (HS7.out.below hB)
  have HSx8 := Lib.hid (HSx7.out.below hB)
  have HX8 := Lib.hid (HX7.out.below hB)
  clear hB HB7 HT7 HS7 HSx7 HX7
  rw [← HR0.out]
  obtain ⟨r0, hr0⟩ : ∃ r0, r0 = rootS F 0 N := ⟨_, rfl⟩
  obtain ⟨r1, hr1⟩ : ∃ r1, r1 = rootS F 0 L := ⟨_, rfl⟩
  rw [← hr0]
  have HQ0 := Lib.hid hr0
  have HQ1 := Lib.hid hr1
  have hr1s : (r1.size : Int) ≤ 32 := by rw [hr1, rootS_size]; omega
  clear hr0 hr1
  go_wp2_with fail
  have HRM : Hid (∀ w, SliceAt w a5 F L → TabAt w → Calls Tryd.prog 27 #[.slice a5 L c5] w fun e w' => e = .returned (.string r1) ∧ Below w.heap.size w w') :=
    Lib.hid fun w h1 h2 => by rw [HQ1.out]; exact Root_sl F HFZ.out L c5 a5 w (by omega) hc5 hc6 h1 h2
  refine (HRM.out _ HSx8.out HT8.out).mono ?_
  rintro e w9 ⟨rfl, hB⟩
  have HB9 := Lib.hid (HB8.out.trans (hB.mono HB8.out.size))
  have HT9 := Lib.hid (HT8.out.below hB HT8.out.size)
  have HS9 := Lib.hid (HS8.out.below hB)
  have HSx9 := Lib.hid (HSx8.out.below hB)
  have HX9 := Lib.hid (HX8.out.below hB)
  clear hB HB8 HT8 HS8 HSx8 HX8
  go_wp2_with fail
  have HV : Hid (Calls Tryd.prog 31 #[.string r0, .int .i64 (N : Nat), .string r1, .int .i64 (L : Nat), .slice a7 Y c7] w9 fun e w' => e = .returned (.bool true) ∧ Below w9.heap.size w9 w') := by
    have h1 := VerifyExtension_any (getB ys) HSZ.out r0 r1 N L Y c7 a7 w9 (by omega) h71 (by omega) (by rw [← HYL.out]; exact HX9.out) HT9.out
    have h2 := HOK.out
    rw [← HQ0.out, ← HQ1.out] at h2
    rw [h2] at h1
    exact h1
  refine HV.out.mono ?_
  rintro e w10 ⟨rfl, hB⟩
  have HB10 := Lib.hid (HB9.out.trans (hB.mono HB9.out.size))
  have HT10 := Lib.hid (HT9.out.below hB HT9.out.size)
  have HS10 := Lib.hid (HS9.out.below hB)
  have HSx10 := Lib.hid (HSx9.out.below hB)
  clear hB HB9 HT9 HS9 HSx9 HX9 HV
  rcases Nat.eq_zero_or_pos N with h0 | h0
  · subst h0
    have h1 := HZL.out
    have hle : ∀ w, TabAt w → Calls Tryd.prog 15 #[.string x] w fun e w' => e = .returned (.string r1) ∧ Below w.heap.size w w' := fun w hT => by
      have h2 := Leaf_any x w (by rw [← HHX.out]; simp; omega) hT
      have h3 : r1 = leafB x := by rw [HQ1.out, h1, rootS_one, HL.out]
      rw [h3]; exact h2
    have hsu : ∀ w, TabAt w → Calls Tryd.prog 13 #[.string ⟨#[]⟩] w fun e w' => e = .returned (.string r0) ∧ Below w.heap.size w w' := fun w hT => by
      have h2 := Sum_any ⟨#[]⟩ w (by decide) hT
      rw [HQ0.out, rootS_zero]; exact h2
    have hr0c : ∀ w, SliceAt w a2 G 0 → TabAt w → Calls Tryd.prog 27 #[.slice a2 0 c2] w fun e w' => e = .returned (.string r0) ∧ Below w.heap.size w w' := fun w hS hT => by
      rw [HQ0.out, HR0.out]; exact Root_sl G HFX.out 0 c2 a2 w (by omega) hc2 hc3 hS hT
    have HLE := Lib.hid hle
    have HSU := Lib.hid hsu
    have HRC := Lib.hid hr0c
    clear hle hsu hr0c h1
    go_wp2_with fail
    refine (HRM.out _ HSx10.out HT10.out).mono ?_
    rintro e w11 ⟨rfl, hB⟩
    have HB11 := Lib.hid (HB10.out.trans (hB.mono HB10.out.size))
    have HT11 := Lib.hid (HT10.out.below hB HT10.out.size)
    have HS11 := Lib.hid (HS10.out.below hB)
    clear hB
    go_wp2_with fail
    refine (HLE.out _ HT11.out).mono ?_
    rintro e w12 ⟨rfl, hB⟩
    have HB12 := Lib.hid (HB11.out.trans (hB.mono HB11.out.size))
    have HT12 := Lib.hid (HT11.out.below hB HT11.out.size)
    have HS12 := Lib.hid (HS11.out.below hB)
    clear hB
    go_wp2_with fail
    refine (HRC.out _ HS12.out HT12.out).mono ?_
    rintro e w13 ⟨rfl, hB⟩
    have HB13 := Lib.hid (HB12.out.trans (hB.mono HB12.out.size))
    have HT13 := Lib.hid (HT12.out.below hB HT12.out.size)
    clear hB
    go_wp2_with fail
    refine (HSU.out _ HT13.out).mono ?_
    rintro e w14 ⟨rfl, hB⟩
    have HB14 := Lib.hid (HB13.out.trans (hB.mono HB13.out.size))
    clear hB
    go_wp2_with fail
    go_ret
    exact ⟨rfl, HB14.out⟩
  · have h1 := HZL.out
    have h2 : 2 ≤ L := by omega
    have hN0 : ((N : Int) == 0) = false := by simp; omega
    obtain ⟨g, hg5⟩ : ∃ g, a5 = some ⟨g, 0, none⟩ := by
      rcases HSH.out with ⟨_, h4⟩ | h4
      · omega
      · exact h4
    subst hg5
    have hp1 := half_pos L
    have hp2 := half_lt h2
    have hLe := Lib.hid (fun w => left_any L w h2 (by omega))
    have hro : r1 = nodeB (rootS F 0 (half L)) (rootS F (half L) (L - half L)) := by
      rw [HQ1.out, rootS_more h2, Nat.zero_add]
    have hs1 := rootS_size F 0 (half L)
    have hs2 := rootS_size F (half L) (L - half L)
    have HC1 : Hid (∀ w, SliceAt w (some ⟨g, 0, none⟩) F L → TabAt w → Calls Tryd.prog 27 #[.slice (some ⟨g, 0, none⟩) (half L) c5] w fun e w' => e = .returned (.string (rootS F 0 (half L))) ∧ Below w.heap.size w w') :=
      Lib.hid fun w h1 h2 => Root_sl F HFZ.out (half L) c5 _ w (by omega) (by omega) hc6 (h1.upto (by omega)) h2
    have HC2 : Hid (∀ w, SliceAt w (some ⟨g, 0, none⟩) F L → TabAt w → Calls Tryd.prog 27 #[.slice (some ⟨g, half L, none⟩) (L - half L) (c5 - half L)] w fun e w' => e = .returned (.string (rootS F (half L) (L - half L))) ∧ Below w.heap.size w w') :=
      Lib.hid fun w h1 h2 => by
        have h3 := h1.tail (k := half L) hc5
        rw [if_neg (by omega), Nat.zero_add] at h3
        have h4 := Root_sl (fun j => F (half L + j)) (fun j => HFZ.out _) (L - half L) (c5 - half L) _ w (by omega) (by omega) (by omega) h3 h2
        rwa [← rootS_shift F (half L) _ _ _ (Nat.le_refl _), Nat.add_zero] at h4
    generalize rootS F 0 (half L) = p1 at *
    generalize rootS F (half L) (L - half L) = p2 at *
    have HN : Hid (∀ w, TabAt w → Calls Tryd.prog 17 #[.string p1, .string p2] w fun e w' => e = .returned (.string r1) ∧ Below w.heap.size w w') :=
      Lib.hid fun w hT => by rw [hro]; exact Node_any p1 p2 w (by omega) (by omega) hT
    have hhc : ((half L : Nat) : Int) ≤ c5 := by omega
    have hhl : ((half L : Nat) : Int) ≤ L := by omega
    have hne : ¬ c5 = half L := by omega
    generalize half L = h at *
    clear hro hs1 hs2 hp1 hp2 h1 h0
    go_wp2_with fail
    refine (hLe.out _).mono ?_
    rintro e w' ⟨rfl, rfl⟩
    go_wp2_with fail
    go_region_held3 (fun _ => True) (trivial) (first
      | (go_at_call 27; (with_reducible refine (HRM.out _ ?_ ?_).mono ?_); exact HSx10.out; exact HT10.out; rintro e w11 ⟨rfl, hB11⟩; have HSx11 := Lib.hid (SliceAt.via hB11 HSx10.out); have HT11 := Lib.hid (tabVia hB11 HT10.out))
      | (go_at_call 27; (with_reducible refine (HC1.out _ ?_ ?_).mono ?_); exact HSx11.out; exact HT11.out; rintro e w12 ⟨rfl, hB12⟩; have HSx12 := Lib.hid (SliceAt.via hB12 HSx11.out); have HT12 := Lib.hid (tabVia hB12 HT11.out))
      | (go_at_call 27; (with_reducible refine (HC2.out _ ?_ ?_).mono ?_); exact HSx12.out; exact HT12.out; rintro e w13 ⟨rfl, hB13⟩; have HT13 := Lib.hid (tabVia hB13 HT12.out))
      | (go_at_call 17; (with_reducible refine (HN.out _ ?_).mono ?_); exact HT13.out; rintro e w14 ⟨rfl, hB14⟩))
    have HB14 := Lib.hid (belowVia hB14 (belowVia hB13 (belowVia hB12 (belowVia hB11 ⟨HB10.out.os, HB10.out.tape, HB10.out.output, HB10.out.size, HB10.out.block⟩))))
    go_wp2_with fail
    go_ret
    exact ⟨rfl, HB14.out⟩
end Go.Proofs.YtdhpighnkoamiaaDoor
