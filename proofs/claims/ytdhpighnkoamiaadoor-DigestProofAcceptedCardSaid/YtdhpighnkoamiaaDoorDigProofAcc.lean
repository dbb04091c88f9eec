/- DigestProofAccepted: what the law's body answers. -/
import Derived.BigQuiet
import Derived.Deep.QuietTactic
import Derived.Test.YtdhpighnkoamiaaDoorDigAppend
namespace Go.Proofs.YtdhpighnkoamiaaDoor
open Go.RowKit Putlog

theorem bits_le (n : Nat) : bitsOf n ≤ n := by
  suffices h : ∀ k m, m ≤ k → bitsOf m ≤ m from h n n (Nat.le_refl _)
  intro k
  induction k with
  | zero => intro m hm; obtain rfl : m = 0 := by omega
            rw [bitsOf_zero]; omega
  | succ k ih =>
    intro m hm
    rcases Nat.eq_zero_or_pos m with rfl | h0
    · rw [bitsOf_zero]; omega
    · rw [bitsOf_pos h0]; have := ih (m / 2) (by omega); omega
theorem proof_size (f : Nat → ByteArray) (n i j : Nat) : (getB (besideS f 0 n i) j).size ≤ 140737488355327 := by
  refine getB_size _ (fun x hx => ?_) j
  have := beside_mem f n n 0 i (Nat.le_refl _) x hx
  omega
theorem verB_len (f ps : Nat → ByteArray) (root s : ByteArray) {n i m : Nat} (h : m ≠ (besideS f 0 n i).length) : verB ps root s n i m = false := by
  rw [verB]
  split
  · rw [Int.toNat_natCast, Int.toNat_natCast, value_len f ps s n n i 0 m (Nat.le_refl _)]
    simp [h]
  · rfl

set_option maxRecDepth 100000 in
set_option maxHeartbeats 8000000 in
theorem ProofAccepted_calls (f : Nat → ByteArray) (n c : Nat) (a : Option Addr) (i : Int) (w : World) (hf : ∀ j, j < n → (f j).size ≤ 9223372036854775807) (hn : (n : Int) ≤ 9223372036854775807) (hs : SliceAt w a f n) (hT : TabAt w) :
    Calls Tryd.prog 6 #[.slice a n c, .int .i64 i] w fun e w' => e = .returned (.bool true) ∧ Below w.heap.size w w' := by
  have HS := Lib.hid hs
  have HF := Lib.hid hf
  have HT := Lib.hid hT
  clear hs hf hT
  go_enter Tryd.func6, Tryd.ntmps6
  go_wp2_with fail
  refine (sane_any w HT.out).mono ?_
  rintro e w1 ⟨rfl, hB⟩
  have HB1 := Lib.hid hB
  have HT1 := Lib.hid (HT.out.below hB HT.out.size)
  have HS1 := Lib.hid (HS.out.below hB)
  clear hB HS HT
  go_wp2_with fail
  refine (few_any f n c 40 a w1 HF.out hn (by omega) HS1.out).mono ?_
  intro e w2 hg
  obtain ⟨a2, c2, rfl, hc2, hc3, hs2, hsh, hB⟩ := hg
  have hN : (fewL f (min n 40)).length ≤ 40 := by rw [fewL_len]; omega
  have hFs := few_sz f (min n 40)
  generalize fewL f (min n 40) = xs at *
  obtain ⟨N, hNx⟩ : ∃ N, N = xs.length := ⟨_, rfl⟩
  rw [← hNx] at hc2 hs2 hN ⊢
  have HB2 := Lib.hid (HB1.out.trans (hB.mono HB1.out.size))
  have HT2 := Lib.hid (HT1.out.below hB HT1.out.size)
  have HS2 := Lib.hid hs2
  have HFS := Lib.hid hFs
  have hN40 : (N : Int) ≤ 40 := by omega
  clear hB hs2 hsh hFs HB1 HT1 HS1 HF hn hN
  generalize hF : getB xs = F at *
  clear hF hNx xs
  go_wp2_with fail
  refine (Root_sl F HFS.out N c2 a2 w2 (by omega) hc2 hc3 HS2.out HT2.out).mono ?_
  rintro e w3 ⟨rfl, hB⟩
  have HB3 := Lib.hid (HB2.out.trans (hB.mono HB2.out.size))
  have HT3 := Lib.hid (HT2.out.below hB HT2.out.size)
  have HS3 := Lib.hid (HS2.out.below hB)
  clear hB HB2 HT2 HS2
  obtain ⟨rt, hrt⟩ : ∃ rt, rt = rootS F 0 N := ⟨_, rfl⟩
  rw [← hrt]
  have HRT := Lib.hid hrt
  clear hrt
  go_wp2_with fail
  go_loopw [7] (fun i wr => ∃ k : Nat, k ≤ N ∧ i = .int .i64 k ∧ Below w3.heap.size w3 wr) (fun i _ => N - (intOf i).toNat)
  case atStart => exact ⟨0, by omega, rfl, Below.refl _ _⟩
  case round =>
    obtain ⟨k, hk, rfl, hB⟩ := hrel
    have HBr := Lib.hid hB
    have HTr := Lib.hid (HT3.out.below hB HT3.out.size)
    have HSr := Lib.hid (HS3.out.below hB)
    clear hB
    by_cases hlt : k < N
    · have hlt' : (k : Int) < N := by omega
      have HX := Lib.hid (Proof_ok F HFS.out N c2 a2 k wr (by omega) hc2 hc3 hlt HSr.out HTr.out)
      have hlen := beside_bits F 0 N k
      have hok := verB_ok F hlt
      have hsz := proof_size F N k
      generalize besideS F 0 N k = ys at *
      have hbb := bits_le N
      have HBI := Lib.hid (fun w => binary_any N w (by omega))
      have hlen2 : (ys.length : Int) ≤ (bitsOf N : Nat) := by omega
      have hys : (ys.length : Int) ≤ 40 := by omega
      have hbi : ((bitsOf N : Nat) : Int) ≤ 40 := by omega
      generalize bitsOf N = B at *
      have HOK := Lib.hid hok
      have HSZ := Lib.hid hsz
      clear hok hsz hlen hbb
      go_wp2_with fail
      refine HX.out.mono ?_
      intro e w4 hg
      obtain ⟨v, rfl, a4, c4, rfl, h41, h42, h43, hB⟩ := hg
      have HB4 := Lib.hid (HBr.out.trans (hB.mono HBr.out.size))
      have HT4 := Lib.hid (HTr.out.below hB HTr.out.size)
      have HS4 := Lib.hid (HSr.out.below hB)
      have HX4 := Lib.hid h43
      clear hB h43 HBr HTr HSr HX h42
      generalize hyl : ys.length = L at *
      have HYL := Lib.hid hyl
      clear hyl
      obtain ⟨b2, o2, ha2, hcells⟩ := HS4.out (by omega)
      have hcell := hcells k hlt
      have hfk := HFS.out k
      generalize F k = x at *
      clear hcells
      subst ha2
      go_wp2_with fail
      refine (HBI.out _).mono ?_
      rintro e w' ⟨rfl, rfl⟩
      have HV := Lib.hid (Verify_any (getB ys) HSZ.out rt x hfk N k L c4 a4 w4 (by omega) (by have := HYL.out; omega) (by omega) HX4.out HT4.out)
      have hok2 : verB (getB ys) rt x N k L = true := by rw [HRT.out]; exact HOK.out
      rw [hok2] at HV
      have hd : decide (B < L) = false := by simp; omega
      clear hok2 hfk
      go_wp2_with fail
      refine HV.out.mono ?_
      rintro e w5 ⟨rfl, hB⟩
      have HB5 := Lib.hid (HB4.out.trans (hB.mono HB4.out.size))
      clear hB HB4 HT4 HX4 HV
      go_wp2_with fail
      go_roundw
      case rel => exact ⟨k + 1, by omega, by go_num, HB5.out⟩
      case measure => simp [intOf]; omega
    · have hkN : k = N := by omega
      subst hkN
      clear hlt hk
      by_cases hin : 0 ≤ i ∧ i < k
      · obtain ⟨q, rfl⟩ := Int.eq_ofNat_of_zero_le hin.1
        have hq : q < k := by omega
        have hq2 : (q : Int) < k := by omega
        have HX := Lib.hid (Proof_ok F HFS.out k c2 a2 q wr (by omega) hc2 hc3 hq HSr.out HTr.out)
        have hlen := beside_bits F 0 k q
        have hbb := bits_le k
        have hsz := proof_size F k q
        have hmem := beside_mem F k k 0 q (Nat.le_refl _)
        have hver : ∀ ps s m, m ≠ (besideS F 0 k q).length → verB ps rt s k q m = false := fun ps s m => verB_len F ps rt s
        generalize besideS F 0 k q = ys at *
        have hys : (ys.length : Int) ≤ 40 := by omega
        have HVN := Lib.hid hver
        have HSZ := Lib.hid hsz
        have HMM := Lib.hid hmem
        clear hsz hlen hbb hin hver hmem
        go_wp2_with fail
        refine HX.out.mono ?_
        intro e w4 hg
        obtain ⟨v, rfl, a4, c4, rfl, h41, h42, h43, hB⟩ := hg
        have HB4 := Lib.hid (HBr.out.trans (hB.mono HBr.out.size))
        have HT4 := Lib.hid (HTr.out.below hB HTr.out.size)
        have HS4 := Lib.hid (HSr.out.below hB)
        have HX4 := Lib.hid h43
        clear hB h43 HBr HTr HSr HX h42
        obtain ⟨b2, o2, ha2, hcells⟩ := HS4.out (by omega)
        have hcell := hcells q hq
        have hfq := HFS.out q
        generalize F q = x at *
        clear hcells
        subst ha2
        go_wp2_with fail
        obtain ⟨i0, hi0, hz0, hz1, hz2⟩ := info_parts info9
        have HI0 := Lib.hid hi0
        have HZ0 := Lib.hid hz0
        have HZ1 := Lib.hid hz1
        have HZ2 := Lib.hid hz2
        obtain ⟨zs, hzs⟩ : ∃ zs, zs = ys ++ [rt] := ⟨_, rfl⟩
        have HZS := Lib.hid hzs
        clear hzs
        have HV1 : Hid (∀ a5 c5 w, zs.length ≤ c5 → SliceAt w a5 (getB zs) zs.length → TabAt w → Calls Tryd.prog 29 #[.string rt, .int .i64 (k : Nat), .int .i64 (q : Nat), .string x, .slice a5 zs.length c5] w fun e w' => e = .returned (.bool false) ∧ Below w.heap.size w w') :=
          Lib.hid fun a5 c5 w h1 h2 h3 => by
            have h5 := HZS.out
            have h6 : zs.length = ys.length + 1 := by rw [h5]; simp
            have h4 := Verify_any (getB zs) (getB_size _ fun z hz => by
              rw [h5] at hz
              rcases List.mem_append.1 hz with hz | hz
              · have := HMM.out z hz; omega
              · simp at hz; subst hz; rw [HRT.out]; have := rootS_size F 0 k; omega) rt x hfq k q _ c5 a5 w (by omega) h1 (by omega) h2 h3
            rwa [HVN.out _ _ _ (by omega)] at h4
        clear hi0 hz0 hz1 hz2
        have hB0 := belowAlloc (.cells #[] 9) (Below.refl w4.heap.size w4)
        have hO0 : (w4.alloc (.cells #[] 9)).drew.ownsRow w4.heap.size 9 1 (.slice (some ⟨w4.heap.size, 0, none⟩) 0 0) 0 [] := (World.ownsRow_lit w4 #[] 0 (Nat.le_refl _) (by decide) rfl).drew
        have b1 : 0 + ys.length ≤ maxLen := by unfold maxLen; omega
        have b2' : (0 + ys.length) * 16 ≤ 140737488355328 := by omega
        have b4 : 0 + ys.length + 1 ≤ maxLen := by unfold maxLen; omega
        have b5 : (0 + ys.length + 1) * 16 ≤ 140737488355328 := by omega
        have B1 := Lib.hid b1
        have B2 := Lib.hid b2'
        have B4 := Lib.hid b4
        have B5 := Lib.hid b5
        have HB0 := Lib.hid hB0
        have HO0 := Lib.hid hO0
        have HB0b := Lib.hid (belowAlloc (.cells #[.string rt] 9) ((Below.refl w4.heap.size w4).alloc (Nat.le_refl _) (.cells #[] 9)))
        have HO0b : Hid (((w4.alloc (.cells #[] 9)).alloc (.cells #[.string rt] 9)).drew.ownsRow w4.heap.size 9 1 (.slice (some ⟨w4.heap.size, 0, none⟩) 0 0) 0 []) := Lib.hid ((World.ownsRow_lit w4 #[] 0 (Nat.le_refl _) (by decide) rfl).alloc _).drew
        have HB0c := Lib.hid (belowAlloc (.cells #[.string rt] 9) (Below.refl w4.heap.size w4))
        have HB0d := Lib.hid (HB0c.out.alloc HB0c.out.size (.cells #[] 9))
        have HO0d := Lib.hid (lit_late w4 rt 9)
        clear b1 b2' b4 b5 hB0 hO0
        go_region_held3 (fun w' => w'.cell? ⟨b2, o2 + q, none⟩ = some (.string x)) (first | exact hcell | exact keptBelow HB0.out hcell | exact keptBelow HB0b.out hcell | exact keptBelow HB0c.out hcell | exact keptBelow HB0d.out hcell | exact keptBelow hB5 hcell | exact keptBelow hB6 hcell | exact keptBelow (hB5.alloc hB5.size _) hcell | exact keptBelow (hB6.trans (hB7.mono hB6.size)) hcell) (first
          | (go_at_call 29; (with_reducible refine (HV1.out _ _ _ hc5 hs5 (HT4.out.below hB6 HT4.out.size)).mono ?_); rintro e w7 ⟨rfl, hB7⟩)
          | (refine step_append_sl rfl _ _ 26 rfl w4.heap.size 9 i0 (.string ⟨#[]⟩) 16 Tryd.underlying26 HI0.out HZ0.out HZ1.out HZ2.out rfl (.slice (some ⟨w4.heap.size, 0, none⟩) 0 0) 0 [] (by rfl) HO0.out a4 c4 ys (by rfl) (HX4.out.below HB0.out) B1.out B2.out HB0.out.size (fun v1 w5 hown5 hgrow5 => ?_); have hB5 := belowGrown HB0.out HO0.out hgrow5)
          | (refine step_append_sl rfl _ _ 26 rfl w4.heap.size 9 i0 (.string ⟨#[]⟩) 16 Tryd.underlying26 HI0.out HZ0.out HZ1.out HZ2.out rfl (.slice (some ⟨w4.heap.size, 0, none⟩) 0 0) 0 [] (by rfl) HO0b.out a4 c4 ys (by rfl) (HX4.out.below HB0b.out) B1.out B2.out HB0b.out.size (fun v1 w5 hown5 hgrow5 => ?_); have hB5 := belowGrown HB0b.out HO0b.out hgrow5)
          | (refine step_append_sl rfl _ _ 26 rfl w4.heap.size 9 i0 (.string ⟨#[]⟩) 16 Tryd.underlying26 HI0.out HZ0.out HZ1.out HZ2.out rfl (.slice (some ⟨w4.heap.size + 1, 0, none⟩) 0 0) 0 [] (by rfl) HO0d.out a4 c4 ys (by rfl) (HX4.out.below HB0d.out) B1.out B2.out HB0d.out.size (fun v1 w5 hown5 hgrow5 => ?_); have hB5 := belowGrown HB0d.out HO0d.out hgrow5)
          | (refine step_append_own rfl _ _ 26 rfl w4.heap.size 9 i0 (.string ⟨#[]⟩) 1 16 Tryd.underlying26 HI0.out HZ0.out HZ1.out HZ2.out rfl (by decide) v1 (0 + ys.length) ([] ++ ys.map Value.string) (by rfl) (hown5.alloc _) ⟨w5.heap.size, 0, none⟩ 1 1 [.string rt] (by rfl) rfl (news_one w5 rt 9) (one_one rt) B4.out B5.out (hB5.alloc hB5.size _).size (fun v2 w6 hown6 hgrow6 => ?_); have hB6 := belowGrown (hB5.alloc hB5.size _) (hown5.alloc _) hgrow6; obtain ⟨a5, c5, rfl, hc5, hc6, hs5, hsh5⟩ := ownsRow_slice (xs := zs) (ownsRow_snoc HZS.out hown6))
          | (refine step_append_own rfl _ _ 26 rfl w4.heap.size 9 i0 (.string ⟨#[]⟩) 1 16 Tryd.underlying26 HI0.out HZ0.out HZ1.out HZ2.out rfl (by decide) v1 (0 + ys.length) ([] ++ ys.map Value.string) (by rfl) hown5 ⟨w4.heap.size + 1, 0, none⟩ 1 1 [.string rt] (by rfl) rfl (news_late w4 rt 9 #[] hgrow5) (one_one rt) B4.out B5.out hB5.size (fun v2 w6 hown6 hgrow6 => ?_); have hB6 := belowGrown hB5 hown5 hgrow6; obtain ⟨a5, c5, rfl, hc5, hc6, hs5, hsh5⟩ := ownsRow_slice (xs := zs) (ownsRow_snoc HZS.out hown6))
          | (refine step_append_own rfl _ _ 26 rfl w4.heap.size 9 i0 (.string ⟨#[]⟩) 1 16 Tryd.underlying26 HI0.out HZ0.out HZ1.out HZ2.out rfl (by decide) v1 (0 + ys.length) ([] ++ ys.map Value.string) (by rfl) hown5 ⟨w4.heap.size, 0, none⟩ 1 1 [.string rt] (by rfl) rfl (news_early w4 rt 9 #[] hgrow5) (one_one rt) B4.out B5.out hB5.size (fun v2 w6 hown6 hgrow6 => ?_); have hB6 := belowGrown hB5 hown5 hgrow6; obtain ⟨a5, c5, rfl, hc5, hc6, hs5, hsh5⟩ := ownsRow_slice (xs := zs) (ownsRow_snoc HZS.out hown6)))
        all_goals
          have HB7 := Lib.hid (hB6.trans (hB7.mono hB6.size))
          have HE7 := Lib.hid (HB3.out.trans ((HB4.out.trans (HB7.out.mono HB4.out.size)).mono HB3.out.size))
          have HT7 := Lib.hid (HT4.out.below HB7.out HT4.out.size)
          have HX7 := Lib.hid (HX4.out.below HB7.out)
          have hc7 := keptBelow HB7.out hcell
          clear hB5 hB6 hB7 hown5 hgrow5 hc5 hc6 hs5 hsh5 HB0 HB0b HB0c HB0d HO0 HO0b HO0d hcell HB4 HT4 HX4 HV1 HS4
          by_cases hL : ys.length = 0
          · have hd : decide (0 < ys.length) = false := by simp [hL]
            have hd1 : decide ((0 : Int) < ys.length) = false := by simp [hL]
            clear hfq
            go_wp2_with fail
            go_quiet (fail)
            go_wp2_with fail
            go_ret
            exact ⟨rfl, belowDrewN HE7.out _⟩
          · have hd : decide (0 < ys.length) = true := by simp; omega
            have hd0 : (0 : Int) < ys.length := by omega
            have hd1 : decide ((0 : Int) < ys.length) = true := by simp; omega
            obtain ⟨g, p, ha4, _⟩ := HX7.out (by omega)
            subst ha4
            have hsl : ∀ w, (Instr.slice 26 (.slice (some ⟨g, p, none⟩) ys.length c4) (some (.int .i64 1)) none none).run Tryd.prog w = .ok (.slice (some ⟨g, if c4 = 1 then p else p + 1, none⟩) (ys.length - 1) (c4 - 1)) w := fun w => slice_from g p ys.length c4 1 (by omega) w
            have hst := HX7.out.tail (k := 1) h41
            obtain ⟨a6, ha6⟩ : ∃ a6, some (⟨g, if c4 = 1 then p else p + 1, none⟩ : Addr) = a6 := ⟨_, rfl⟩
            rw [ha6] at hsl hst
            clear ha6
            have HV2 : Hid (∀ w', Below w7.heap.size w7 w' → Calls Tryd.prog 29 #[.string rt, .int .i64 (k : Nat), .int .i64 (q : Nat), .string x, .slice a6 (ys.length - 1) (c4 - 1)] w' fun e w'' => e = .returned (.bool false) ∧ Below w7.heap.size w7 w'') :=
              Lib.hid fun w' hb => by
                have h4 := Verify_any (fun j => getB ys (1 + j)) (fun j => HSZ.out _) rt x hfq k q (ys.length - 1) (c4 - 1) a6 w' (by omega) (by omega) (by omega) (hst.below hb) (HT7.out.below hb HT7.out.size)
                rw [HVN.out _ _ _ (by omega)] at h4
                exact h4.mono fun e w'' ⟨h5, h6⟩ => ⟨h5, hb.trans (h6.mono hb.size)⟩
            clear hst hfq hL
            go_wp2_with fail
            go_region_held3 (fun w' => w'.cell? ⟨b2, o2 + q, none⟩ = some (.string x)) (first | exact hc7 | exact keptBelow hB hc7) (first
              | (go_at_call 29; (with_reducible refine (HV2.out _ (by first | exact Below.refl _ _ | exact (Below.refl _ _).drew)).mono ?_); rintro e w8 ⟨rfl, hB⟩))
            have HE8 := Lib.hid (HE7.out.trans (hB.mono HE7.out.size))
            clear hB
            go_wp2_with fail
            go_ret
            exact ⟨rfl, HE8.out⟩
      · have hout : i < 0 ∨ (k : Int) ≤ i := by omega
        have HX := Lib.hid (Proof_no k c2 a2 i wr (by omega) hout)
        have hE : verB (getB []) rt ByteArray.empty k i 0 = false := by rw [verB, if_neg (by omega)]
        have HV := Lib.hid (Verify_any (getB []) (fun j => by simp [getB]) rt ByteArray.empty (by simp) k i 0 0 none wr (by omega) (by omega) (by omega) (SliceAt.zero _ _ _) HTr.out)
        rw [hE] at HV
        clear hE hin HSr HTr
        by_cases hm0 : i < 0
        · have hd : decide (0 ≤ i) = false := by simpa using hm0
          clear hout
          go_wp2_with fail
          refine HX.out.mono ?_
          rintro e w' ⟨rfl, rfl⟩
          go_wp2_with fail
          refine HV.out.mono ?_
          rintro e w4 ⟨rfl, hB⟩
          have HB4 := Lib.hid (HB3.out.trans ((HBr.out.trans (hB.mono HBr.out.size)).mono HB3.out.size))
          clear hB
          go_wp2_with fail
          go_ret
          exact ⟨rfl, HB4.out⟩
        · have hm1 : (k : Int) ≤ i := by omega
          have hm2 : 0 ≤ i := by omega
          have hd : decide (0 ≤ i) = true := by simpa using hm2
          have hd2 : decide (i < (k : Int)) = false := by simpa using hm1
          clear hout hm0
          go_wp2_with fail
          refine HX.out.mono ?_
          rintro e w' ⟨rfl, rfl⟩
          go_wp2_with fail
          refine HV.out.mono ?_
          rintro e w4 ⟨rfl, hB⟩
          have HB4 := Lib.hid (HB3.out.trans ((HBr.out.trans (hB.mono HBr.out.size)).mono HB3.out.size))
          clear hB
          go_wp2_with fail
          go_ret
          exact ⟨rfl, HB4.out⟩
end Go.Proofs.YtdhpighnkoamiaaDoor
