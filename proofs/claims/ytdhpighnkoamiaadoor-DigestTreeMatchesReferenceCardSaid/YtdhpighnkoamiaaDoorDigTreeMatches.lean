/- DigestTreeMatchesReference: what the law's body answers. -/
import Derived.BigQuiet
import Derived.Deep.QuietTactic
import Derived.Test.YtdhpighnkoamiaaDoorDigRefApi
import Derived.Test.YtdhpighnkoamiaaDoorDigBinding
namespace Go.Proofs.YtdhpighnkoamiaaDoor
open Go.RowKit Putlog

set_option maxRecDepth 100000 in
set_option maxHeartbeats 8000000 in
theorem TreeMatches_calls (f0 : Nat → ByteArray) (n0 c0 : Nat) (a0 : Option Addr) (i m : Int) (w : World)
    (hf0 : ∀ j, j < n0 → (f0 j).size ≤ 9223372036854775807) (hn0 : (n0 : Int) ≤ 9223372036854775807) (hs0 : SliceAt w a0 f0 n0) (hT : TabAt w) :
    Calls Tryd.prog 4 #[.slice a0 n0 c0, .int .i64 i, .int .i64 m] w fun e w' => e = .returned (.bool true) ∧ Below w.heap.size w w' := by
  have HS := Lib.hid hs0
  have HF := Lib.hid hf0
  have HT := Lib.hid hT
  clear hs0 hf0 hT
  go_enter Tryd.func4, Tryd.ntmps4
  go_wp2_with fail
  refine (sane_any w HT.out).mono ?_
  rintro e w1 ⟨rfl, hB⟩
  have HB1 := Lib.hid hB
  have HT1 := Lib.hid (tabVia hB HT.out)
  have HS1 := Lib.hid (SliceAt.via hB HS.out)
  clear hB HS HT
  go_wp2_with fail
  refine (few_any f0 n0 c0 40 a0 w1 HF.out hn0 (by omega) HS1.out).mono ?_
  intro e w2 hg
  obtain ⟨a2, c2, rfl, hc2, hc3, hs2, hsh, hB⟩ := hg
  have hN : (fewL f0 (min n0 40)).length ≤ 40 := by rw [fewL_len]; omega
  have hFs := few60 f0 (min n0 40)
  generalize fewL f0 (min n0 40) = xs at *
  obtain ⟨N, hNx⟩ : ∃ N, N = xs.length := ⟨_, rfl⟩
  rw [← hNx] at hc2 hs2 hN ⊢
  have HB2 := Lib.hid (belowVia hB HB1.out)
  have HT2 := Lib.hid (tabVia hB HT1.out)
  have HS2 : Hid (SliceAt w2 a2 (getB xs) N) := hs2
  have h60 : ∀ j, (getB xs j).size ≤ 60 := hFs
  generalize getB xs = F at *
  have HB60 := Lib.hid h60
  have hN40 : (N : Int) ≤ 40 := by omega
  clear hB hs2 hsh hFs HB1 HT1 HS1 HF hn0 h60 hNx
  have hp := prS_len F N i
  have hx := exS_len F N m
  have hz : (rootS F 0 N).size ≤ 32 := Nat.le_of_eq (rootS_size _ _ _)
  have HP := Lib.hid (fun w h1 h2 => Proof_code F (fun j => by have := HB60.out j; omega) N c2 a2 i w (by omega) hc2 hc3 h1 h2)
  have HQ := Lib.hid (fun w h1 h2 => rProof_code F (fun j => by have := HB60.out j; omega) N c2 a2 i w (by omega) hc2 hc3 h1 h2)
  have HX := Lib.hid (fun w h1 h2 => Extension_code F (fun j => by have := HB60.out j; omega) N c2 a2 m w (by omega) hc2 hc3 h1 h2)
  have HY := Lib.hid (fun w h1 h2 => rExtension_code F (fun j => by have := HB60.out j; omega) N c2 a2 m w (by omega) hc2 hc3 h1 h2)
  have HR := Lib.hid (fun w h1 h2 => Root_sl F (fun j => by have := HB60.out j; omega) N c2 a2 w (by omega) hc2 hc3 h1 h2)
  have HRR := Lib.hid (fun w h1 h2 => rRoot_sl F (fun j => by have := HB60.out j; omega) N c2 a2 w (by omega) hc2 hc3 h1 h2)
  generalize prS F N i = ps at *
  generalize exS F N m = es at *
  generalize prE N i = pe at *
  generalize exE N m = ee at *
  generalize rootS F 0 N = rt at *
  have hp1 : (ps.length : Int) ≤ 1000000 := by omega
  have hx1 : (es.length : Int) ≤ 1000000 := by omega
  go_wp2_with fail
  refine (HP.out _ HS2.out HT2.out).mono ?_
  rintro e w3 ⟨u1, rfl, b1, d1, rfl, k11, k12, k13, hB⟩
  have HB3 := Lib.hid (belowVia hB HB2.out)
  have HT3 := Lib.hid (tabVia hB HT2.out)
  have HS3 := Lib.hid (SliceAt.via hB HS2.out)
  have G1x3 : Hid (SliceAt w3 b1 (getB ps) ps.length) := k13
  clear hB HB2 HT2 HS2 k12 k13
  go_wp2_with fail
  refine (HQ.out _ HS3.out HT3.out).mono ?_
  rintro e w4 ⟨u2, rfl, b2, d2, rfl, k21, k22, k23, hB⟩
  have HB4 := Lib.hid (belowVia hB HB3.out)
  have HT4 := Lib.hid (tabVia hB HT3.out)
  have HS4 := Lib.hid (SliceAt.via hB HS3.out)
  have G1x4 := Lib.hid (SliceAt.via hB G1x3.out)
  have G2x4 : Hid (SliceAt w4 b2 (getB ps) ps.length) := k23
  clear hB HB3 HT3 HS3 k22 k23 G1x3
  go_wp2_with fail
  refine (HX.out _ HS4.out HT4.out).mono ?_
  rintro e w5 ⟨u3, rfl, b3, d3, rfl, k31, k32, k33, hB⟩
  have HB5 := Lib.hid (belowVia hB HB4.out)
  have HT5 := Lib.hid (tabVia hB HT4.out)
  have HS5 := Lib.hid (SliceAt.via hB HS4.out)
  have G1x5 := Lib.hid (SliceAt.via hB G1x4.out)
  have G2x5 := Lib.hid (SliceAt.via hB G2x4.out)
  have G3x5 : Hid (SliceAt w5 b3 (getB es) es.length) := k33
  clear hB HB4 HT4 HS4 k32 k33 G1x4 G2x4
  go_wp2_with fail
  refine (HY.out _ HS5.out HT5.out).mono ?_
  rintro e w6 ⟨u4, rfl, b4, d4, rfl, k41, k42, k43, hB⟩
  have HB6 := Lib.hid (belowVia hB HB5.out)
  have HT6 := Lib.hid (tabVia hB HT5.out)
  have HS6 := Lib.hid (SliceAt.via hB HS5.out)
  have G1x6 := Lib.hid (SliceAt.via hB G1x5.out)
  have G2x6 := Lib.hid (SliceAt.via hB G2x5.out)
  have G3x6 := Lib.hid (SliceAt.via hB G3x5.out)
  have G4x6 : Hid (SliceAt w6 b4 (getB es) es.length) := k43
  clear hB HB5 HT5 HS5 k42 k43 G1x5 G2x5 G3x5
  go_wp2_with fail
  refine (same_any ps ps b1 b2 d1 d2 w6 hp1 G1x6.out G2x6.out).mono ?_
  rintro e w7 ⟨r5, rfl, hr5, hB⟩
  obtain rfl := hr5.2 (SameS.refl ps)
  have HB7 := Lib.hid (belowVia hB HB6.out)
  have HT7 := Lib.hid (tabVia hB HT6.out)
  have HS7 := Lib.hid (SliceAt.via hB HS6.out)
  have G3x7 := Lib.hid (SliceAt.via hB G3x6.out)
  have G4x7 := Lib.hid (SliceAt.via hB G4x6.out)
  clear hB hr5 HB6 HT6 HS6
  go_wp2_with fail
  refine (same_any es es b3 b4 d3 d4 w7 hx1 G3x7.out G4x7.out).mono ?_
  rintro e w8 ⟨r6, rfl, hr6, hB⟩
  obtain rfl := hr6.2 (SameS.refl es)
  have HB8 := Lib.hid (belowVia hB HB7.out)
  have HT8 := Lib.hid (tabVia hB HT7.out)
  have HS8 := Lib.hid (SliceAt.via hB HS7.out)
  clear hB hr6 HB7 HT7 HS7
  go_wp2_with fail
  refine (HR.out _ HS8.out HT8.out).mono ?_
  rintro e w9 ⟨rfl, hB⟩
  have HB9 := Lib.hid (belowVia hB HB8.out)
  have HT9 := Lib.hid (tabVia hB HT8.out)
  have HS9 := Lib.hid (SliceAt.via hB HS8.out)
  clear hB HB8 HT8 HS8
  go_wp2_with fail
  refine (HRR.out _ HS9.out HT9.out).mono ?_
  rintro e w10 ⟨rfl, hB⟩
  have HB10 := Lib.hid (belowVia hB HB9.out)
  have HT10 := Lib.hid (tabVia hB HT9.out)
  have HS10 := Lib.hid (SliceAt.via hB HS9.out)
  clear hB HB9 HT9 HS9
  go_wp2_with fail
  go_ret
  exact ⟨rfl, HB10.out⟩
end Go.Proofs.YtdhpighnkoamiaaDoor
