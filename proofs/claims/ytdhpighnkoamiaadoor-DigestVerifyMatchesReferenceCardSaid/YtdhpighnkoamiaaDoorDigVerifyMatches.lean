/- DigestVerifyMatchesReference: what the law's body answers. -/
import Derived.BigQuiet
import Derived.Deep.QuietTactic
import Derived.Test.YtdhpighnkoamiaaDoorDigRefVerify
import Derived.Test.YtdhpighnkoamiaaDoorDigBinding
namespace Go.Proofs.YtdhpighnkoamiaaDoor
open Go.RowKit Putlog

set_option maxRecDepth 100000 in
set_option maxHeartbeats 8000000 in
theorem VerifyMatches_calls (old root s : ByteArray) (n i : Int) (f0 : Nat → ByteArray) (n0 c0 : Nat) (a0 : Option Addr) (w : World) (hn2 : n ≤ 9223372036854775807)
    (hf0 : ∀ j, j < n0 → (f0 j).size ≤ 9223372036854775807) (hn0 : (n0 : Int) ≤ 9223372036854775807) (hs0 : SliceAt w a0 f0 n0) (hss : (s.size : Int) ≤ 9223372036854775807) (hT : TabAt w) :
    Calls Tryd.prog 5 #[.string old, .string root, .int .i64 n, .int .i64 i, .string s, .slice a0 n0 c0] w fun e w' => e = .returned (.bool true) ∧ Below w.heap.size w w' := by
  have HS := Lib.hid hs0
  have HF := Lib.hid hf0
  have HT := Lib.hid hT
  clear hs0 hf0 hT
  go_enter Tryd.func5, Tryd.ntmps5
  go_wp2_with fail
  refine (sane_any w HT.out).mono ?_
  rintro e w1 ⟨rfl, hB⟩
  have HB1 := Lib.hid hB
  have HT1 := Lib.hid (tabVia hB HT.out)
  have HS1 := Lib.hid (SliceAt.via hB HS.out)
  clear hB HS HT
  go_wp2_with fail
  refine (few_any f0 n0 c0 70 a0 w1 HF.out hn0 (by omega) HS1.out).mono ?_
  intro e w2 hg
  obtain ⟨a2, c2, rfl, hc2, hc3, hs2, hsh, hB⟩ := hg
  have hN : (fewL f0 (min n0 70)).length ≤ 70 := by rw [fewL_len]; omega
  have hFs := few60 f0 (min n0 70)
  generalize fewL f0 (min n0 70) = xs at *
  obtain ⟨N, hNx⟩ : ∃ N, N = xs.length := ⟨_, rfl⟩
  rw [← hNx] at hc2 hs2 hN ⊢
  have HB2 := Lib.hid (belowVia hB HB1.out)
  have HT2 := Lib.hid (tabVia hB HT1.out)
  have HS2 : Hid (SliceAt w2 a2 (getB xs) N) := hs2
  have h60 : ∀ j, (getB xs j).size ≤ 60 := hFs
  generalize getB xs = F at *
  have HB60 := Lib.hid h60
  have hN40 : (N : Int) ≤ 70 := by omega
  clear hB hs2 hsh hFs HB1 HT1 HS1 HF hn0 h60 hNx
  have hmin : min (s.size : Int) 60 = ((min s.size 60 : Nat) : Int) := by omega
  have hms : ((min s.size 60 : Nat) : Int) ≤ s.size := by omega
  have hcut : (s.extract 0 (min s.size 60)).size ≤ 60 := by simp; omega
  generalize min s.size 60 = ms at *
  generalize hSe : s.extract 0 ms = S at *
  have HP := Lib.hid (fun w h1 h2 => Verify_any F (fun j => by have := HB60.out j; omega) root S (by omega) n i N c2 a2 w hn2 hc2 (by omega) h1 h2)
  have HQ := Lib.hid (fun w h1 => rVerify_any F (fun j => by have := HB60.out j; omega) root S (by omega) n i N c2 a2 w hn2 hc2 (by omega) h1)
  have HX := Lib.hid (fun w h1 h2 => VerifyExtension_any F (fun j => by have := HB60.out j; omega) old root i n N c2 a2 w hn2 hc2 (by omega) h1 h2)
  have HY := Lib.hid (fun w h1 => rVerifyExtension_any F (fun j => by have := HB60.out j; omega) old root i n N c2 a2 w hn2 hc2 (by omega) h1)
  generalize verB F root S n i N = r1 at *
  generalize extB F old root i n N = r2 at *
  clear hcut hN
  go_wp2_with fail
  refine (HP.out _ HS2.out HT2.out).mono ?_
  rintro e w3 ⟨rfl, hB⟩
  have HB3 := Lib.hid (belowVia hB HB2.out)
  have HT3 := Lib.hid (tabVia hB HT2.out)
  have HS3 := Lib.hid (SliceAt.via hB HS2.out)
  clear hB HB2 HT2 HS2
  go_wp2_with fail
  refine (HQ.out _ HS3.out).mono ?_
  rintro e w4 ⟨rfl, hB⟩
  have HB4 := Lib.hid (belowVia hB HB3.out)
  have HT4 := Lib.hid (tabVia hB HT3.out)
  have HS4 := Lib.hid (SliceAt.via hB HS3.out)
  clear hB HB3 HT3 HS3
  go_wp2_with fail
  refine (HX.out _ HS4.out HT4.out).mono ?_
  rintro e w5 ⟨rfl, hB⟩
  have HB5 := Lib.hid (belowVia hB HB4.out)
  have HT5 := Lib.hid (tabVia hB HT4.out)
  have HS5 := Lib.hid (SliceAt.via hB HS4.out)
  clear hB HB4 HT4 HS4
  go_wp2_with fail
  refine (HY.out _ HS5.out).mono ?_
  rintro e w6 ⟨rfl, hB⟩
  have HB6 := Lib.hid (belowVia hB HB5.out)
  have HT6 := Lib.hid (tabVia hB HT5.out)
  have HS6 := Lib.hid (SliceAt.via hB HS5.out)
  clear hB HB5 HT5 HS5
  go_wp2_with fail
  go_ret
  exact ⟨rfl, HB6.out⟩
end Go.Proofs.YtdhpighnkoamiaaDoor
