/- DigestExtensionAccepted: what the law's body answers. -/
import Derived.Test.YtdhpighnkoamiaaDoorDigSaneW
import Derived.Test.YtdhpighnkoamiaaDoorDigLeft
namespace Go.Proofs.YtdhpighnkoamiaaDoor
open Go.RowKit Putlog

theorem slice_head (a : Option Addr) (n c k : Nat) (hk : k ≤ n) (hnc : n ≤ c) (hs : (a = none ∧ c = 0) ∨ ∃ g, a = some ⟨g, 0, none⟩) (w : World) :
    (Instr.slice 26 (.slice a n c) none (some (.int .i64 (k : Nat))) none).run Tryd.prog w = .ok (.slice a k c) w := by
  have ht : Tryd.prog.underlying 26 = some (.slice (Tryd.prog.elem 26)) := by kernel_rfl
  have hz : (sizeOf (Tryd.prog.elem 26)).run Tryd.prog w = .ok 1 w := by kernel_rfl
  rw [run_slice_h w 26 a n c ht .i64 k (by omega) (by omega), hz]
  simp only [Result.andThen, sliced, Int.toNat_natCast, Nat.sub_zero]
  rcases hs with ⟨rfl, rfl⟩ | ⟨g, rfl⟩
  · simp
  · split <;> simp [Addr.add]
theorem SliceAt.head {w : World} {a : Option Addr} {f : Nat → ByteArray} {n k : Nat} (h : SliceAt w a f n) (hk : k ≤ n) : SliceAt w a f k := fun h0 => by
  obtain ⟨b, o, h1, h2⟩ := h (by omega)
  exact ⟨b, o, h1, fun j hj => h2 j (by omega)⟩
theorem few_size (f : Nat → ByteArray) (k j : Nat) : (getB (fewL f k) j).size ≤ 140737488355327 := by
  have := fewL_mem (f := f) (k := k) j
  unfold getB; omega
theorem ext_short (f : Nat → ByteArray) {n m : Nat} (h : m ≤ n) : (extS f n m).length ≤ 2 * bitsOf n := by
  rcases Nat.eq_zero_or_pos m with rfl | h0
  · rw [extS, if_pos rfl]; simp
  · rw [extS, if_neg (by omega)]
    have h1 := part_short f (bitsOf n) n 0 m true (Nat.le_of_lt (bitsOf_lt n n (Nat.le_refl _))) h0 h
    have h2 := bitsOf_one (n := n) (by omega)
    omega
theorem ext_size (f : Nat → ByteArray) (n m j : Nat) : (getB (extS f n m) j).size ≤ 140737488355327 := by
  refine getB_size _ (fun x hx => ?_) j
  rw [extS] at hx
  split at hx
  · cases hx
  · have := part_mem f n n 0 m true (Nat.le_refl _) x hx
    omega
theorem ext_lenb (f : Nat → ByteArray) {n m : Nat} (h : m ≤ n) : (extS f n m).length ≤ n := by
  rw [extS]
  split
  · simp
  · exact partS_len f n n 0 m true (Nat.le_refl _) (by omega)

set_option maxRecDepth 100000 in
set_option maxHeartbeats 8000000 in
theorem ExtensionAccepted_calls (f : Nat → ByteArray) (n c : Nat) (a : Option Addr) (m : Int) (w : World) (hf : ∀ j, j < n → (f j).size ≤ 9223372036854775807) (hn : (n : Int) ≤ 9223372036854775807) (hs : SliceAt w a f n) (hT : TabAt w) :
    Calls Tryd.prog 7 #[.slice a n c, .int .i64 m] w fun e w' => e = .returned (.bool true) ∧ Below w.heap.size w w' := by
  have HS := Lib.hid hs
  have HF := Lib.hid hf
  have HT := Lib.hid hT
  clear hs hf hT
  go_enter Tryd.func7, Tryd.ntmps7
  go_wp2_with fail
  refine (sane_any w HT.out).mono ?_
  rintro e w1 ⟨rfl, hB⟩
  have HB1 := Lib.hid hB
  have HT1 := Lib.hid (HT.out.below hB HT.out.size)
  have HS1 := Lib.hid (HS.out.below hB)
  clear hB HS HT
  go_wp2_with fail
  refine (few_any f n c 25 a w1 HF.out hn (by omega) HS1.out).mono ?_
  intro e w2 hg
  obtain ⟨a2, c2, rfl, hc2, hc3, hs2, hsh, hB⟩ := hg
  have hN : (fewL f (min n 25)).length ≤ 25 := by rw [fewL_len]; omega
  have hFs := few_size f (min n 25)
  generalize fewL f (min n 25) = xs at *
  obtain ⟨N, hNx⟩ : ∃ N, N = xs.length := ⟨_, rfl⟩
  rw [← hNx] at hc2 hs2 hN ⊢
  have HB2 := Lib.hid (HB1.out.trans (hB.mono HB1.out.size))
  have HT2 := Lib.hid (HT1.out.below hB HT1.out.size)
  have HS2 := Lib.hid hs2
  have hsh2 : (a2 = none ∧ c2 = 0) ∨ ∃ g, a2 = some ⟨g, 0, none⟩ := hsh.imp id (fun ⟨g, _, h⟩ => ⟨g, h⟩)
  have HSH := Lib.hid hsh2
  have HFS := Lib.hid hFs
  have hN25 : (N : Int) ≤ 25 := by omega
  clear hB hs2 hsh hsh2 hFs HB1 HT1 HS1 HF hn hN
  generalize getB xs = F at *
  clear hNx xs
  go_wp2_with fail
  refine (Root_sl F HFS.out N c2 a2 w2 (by omega) hc2 hc3 HS2.out HT2.out).mono ?_
  rintro e w3 ⟨rfl, hB⟩
  have HB3 := Lib.hid (HB2.out.trans (hB.mono HB2.out.size))
  have HT3 := Lib.hid (HT2.out.below hB HT2.out.size)
  have HS3 := Lib.hid (HS2.out.below hB)
  clear hB HB2 HT2 HS2
  obtain ⟨rt, hrt⟩ : ∃ rt, rt = rootS F 0 N := ⟨_, rfl⟩
  rw [← hrt]
  have HRT := Lib.hid hrt
  clear hrt
  go_wp2_with fail
  go_loopw [7] (fun i wr => ∃ k : Nat, k ≤ N + 1 ∧ i = .int .i64 k ∧ Below w3.heap.size w3 wr) (fun i _ => N + 1 - (intOf i).toNat)
  case atStart => exact ⟨0, by omega, rfl, Below.refl _ _⟩
  case round =>
    obtain ⟨k, hk, rfl, hB⟩ := hrel
    have HBr := Lib.hid hB
    have HTr := Lib.hid (HT3.out.below hB HT3.out.size)
    have HSr := Lib.hid (HS3.out.below hB)
    clear hB
    by_cases hlt : k ≤ N
    · have hlt' : (k : Int) ≤ N := by omega
      have HX := Lib.hid (Extension_ok F HFS.out N c2 a2 k wr (by omega) hc2 hc3 hlt HSr.out HTr.out)
      have hlen := ext_short F hlt
      have hlb := ext_lenb F hlt
      have hok := extB_ok F hlt
      have hsz := ext_size F N k
      have hsl := fun w => slice_head a2 N c2 k hlt hc2 HSH.out w
      generalize extS F N k = ys at *
      have hbb : ((bitsOf N : Nat) : Int) ≤ 1000 := by
        have : bitsOf N ≤ N := by
          suffices h : ∀ k m, m ≤ k → bitsOf m ≤ m from h N N (Nat.le_refl _)
          intro k
          induction k with
          | zero => intro m hm; obtain rfl : m = 0 := by omega
                    rw [bitsOf_zero]; omega
          | succ k ih =>
            intro m hm
            rcases Nat.eq_zero_or_pos m with rfl | h0
            · rw [bitsOf_zero]; omega
            · rw [bitsOf_pos h0]; have := ih (m / 2) (by omega); omega
        omega
      have HBI := Lib.hid (fun w => binary_any N w (by omega))
      have hlen2 : (ys.length : Int) ≤ 2 * (bitsOf N : Nat) := by omega
      have hys : (ys.length : Int) ≤ 25 := by omega
      generalize bitsOf N = B at *
      have HOK := Lib.hid hok
      have HSZ := Lib.hid hsz
      clear hok hsz hlen hlb
      go_wp2_with fail
      refine HX.out.mono ?_
      intro e w4 hg
      obtain ⟨v, rfl, a4, c4, rfl, h41, h42, h43, hB⟩ := hg
      have HB4 := Lib.hid (HBr.out.trans (hB.mono HBr.out.size))
      have HT4 := Lib.hid (HTr.out.below hB HTr.out.size)
      have HS4 := Lib.hid (HSr.out.below hB)
      have HX4 := Lib.hid h43
      clear hB h43 HBr HTr HSr HX h42
      generalize hyl : ys.length = L at *
      have HYL := Lib.hid hyl
      clear hyl
      go_wp2_with fail
      refine (HBI.out _).mono ?_
      rintro e w' ⟨rfl, rfl⟩
      go_wp2_with fail
      refine (Root_sl F HFS.out k c2 a2 w4 (by omega) (by omega) hc3 (HS4.out.head hlt) HT4.out).mono ?_
      rintro e w5 ⟨rfl, hB⟩
      have HB5 := Lib.hid (HB4.out.trans (hB.mono HB4.out.size))
      have HT5 := Lib.hid (HT4.out.below hB HT4.out.size)
      have HX5 := Lib.hid (HX4.out.below hB)
      clear hB HB4 HT4 HS4 HX4
      have HV := Lib.hid (VerifyExtension_any (getB ys) HSZ.out (rootS F 0 k) rt k N L c4 a4 w5 (by omega) (by have := HYL.out; omega) (by omega) HX5.out HT5.out)
      have hok2 : extB (getB ys) (rootS F 0 k) rt k N L = true := by rw [HRT.out]; exact HOK.out
      rw [hok2] at HV
      clear hok2
      generalize rootS F 0 k = rk at *
      go_wp2_with fail
      refine HV.out.mono ?_
      rintro e w6 ⟨rfl, hB⟩
      have HB6 := Lib.hid (HB5.out.trans (hB.mono HB5.out.size))
      clear hB HB5 HT5 HX5
      go_wp2_with fail
      go_roundw
      case rel => exact ⟨k + 1, by omega, by go_num, HB6.out⟩
      case measure => simp [intOf]; omega
    · have hlt' : (N : Int) < k := by omega
      clear hlt
      by_cases hin : 0 ≤ m ∧ m ≤ N
      · obtain ⟨q, rfl⟩ := Int.eq_ofNat_of_zero_le hin.1
        have hq : q ≤ N := by omega
        have hq2 : (q : Int) ≤ N := by omega
        have HX := Lib.hid (Extension_ok F HFS.out N c2 a2 q wr (by omega) hc2 hc3 hq HSr.out HTr.out)
        clear hin hk HSr HTr
        go_wp2_with fail
        refine HX.out.mono ?_
        intro e w4 hg
        obtain ⟨v, rfl, a4, c4, rfl, h41, h42, h43, hB⟩ := hg
        have HB4 := Lib.hid (HB3.out.trans ((HBr.out.trans (hB.mono HBr.out.size)).mono HB3.out.size))
        clear hB h43 HX h42 h41
        generalize (extS F N q).length = L at *
        go_wp2_with fail
        go_ret
        exact ⟨rfl, HB4.out⟩
      · have hout : m < 0 ∨ (N : Int) < m := by omega
        have HX := Lib.hid (Extension_no N c2 a2 m wr (by omega) hout)
        have hE : extB (getB []) rt rt m N 0 = false := by rw [extB, if_neg (by omega)]
        have HV := Lib.hid (VerifyExtension_any (getB []) (fun j => by simp [getB]) rt rt m N 0 0 none wr (by omega) (by omega) (by omega) (SliceAt.zero _ _ _) HTr.out)
        rw [hE] at HV
        clear hE hin hk HSr HTr
        by_cases hm0 : m < 0
        · have hd : decide (0 ≤ m) = false := by simpa using hm0
          clear hout
          go_wp2_with fail
          refine HX.out.mono ?_
          rintro e w' ⟨rfl, rfl⟩
          go_wp2_with fail
          refine HV.out.mono ?_
          rintro e w4 ⟨rfl, hB⟩
          have HB4 := Lib.hid (HB3.out.trans ((HBr.out.trans (hB.mono HBr.out.size)).mono HB3.out.size))
          clear hB
          go_wp2_with fail
          go_ret
          exact ⟨rfl, HB4.out⟩
        · have hm1 : (N : Int) < m := by omega
          have hm2 : 0 ≤ m := by omega
          have hd : decide (0 ≤ m) = true := by simpa using hm2
          have hd2 : decide (m ≤ (N : Int)) = false := by simpa using hm1
          clear hout hm0
          go_wp2_with fail
          refine HX.out.mono ?_
          rintro e w' ⟨rfl, rfl⟩
          go_wp2_with fail
          refine HV.out.mono ?_
          rintro e w4 ⟨rfl, hB⟩
          have HB4 := Lib.hid (HB3.out.trans ((HBr.out.trans (hB.mono HBr.out.size)).mono HB3.out.size))
          clear hB
          go_wp2_with fail
          go_ret
          exact ⟨rfl, HB4.out⟩
end Go.Proofs.YtdhpighnkoamiaaDoor
