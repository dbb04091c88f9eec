/- DigestSumMatchesReference: what the law's body answers. -/
import Derived.Test.YtdhpighnkoamiaaDoorDigRefLeaf
namespace Go.Proofs.YtdhpighnkoamiaaDoor
open Go.RowKit Putlog

set_option maxRecDepth 100000 in
set_option maxHeartbeats 4000000 in
theorem SumMatches_calls (s t : ByteArray) (w : World) (hss : (s.size : Int) ≤ 9223372036854775807) (htt : (t.size : Int) ≤ 9223372036854775807) (hT : TabAt w) :
    Calls Tryd.prog 3 #[.string s, .string t] w fun e w' => e = .returned (.bool true) ∧ Below w.heap.size w w' := by
  have HT := Lib.hid hT
  clear hT
  go_enter Tryd.func3, Tryd.ntmps3
  go_wp2_with fail
  refine (sane_any w HT.out).mono ?_
  rintro e w1 ⟨rfl, hB⟩
  have HB1 := Lib.hid hB
  have HT1 := Lib.hid (tabVia hB HT.out)
  clear hB HT
  have hmin : min (s.size : Int) 500 = ((min s.size 500 : Nat) : Int) := by omega
  have hms : ((min s.size 500 : Nat) : Int) ≤ s.size := by omega
  have hcut : (s.extract 0 (min s.size 500)).size ≤ 500 := by simp; omega
  generalize min s.size 500 = ms at *
  generalize hSe : s.extract 0 ms = S at *
  have hmin' : min (t.size : Int) 500 = ((min t.size 500 : Nat) : Int) := by omega
  have hmt : ((min t.size 500 : Nat) : Int) ≤ t.size := by omega
  have hcut' : (t.extract 0 (min t.size 500)).size ≤ 500 := by simp; omega
  generalize min t.size 500 = mt at *
  generalize hTe : t.extract 0 mt = T at *
  have hz1 : (shaB S).size ≤ 32 := by rw [shaB_size]; omega
  have hz2 : (leafB T).size ≤ 32 := Nat.le_of_eq (shaB_size _)
  have hz3 : (nodeB S T).size ≤ 32 := Nat.le_of_eq (shaB_size _)
  have hz4 : (chainB T S).size ≤ 32 := Nat.le_of_eq (shaB_size _)
  have H1 := Lib.hid (fun w h => Sum_any S w (by omega) h)
  have H2 : Hid (∀ w, TabAt w → Calls Tryd.prog 15 #[.string T] w fun e w' => e = .returned (.string (leafB T)) ∧ Below w.heap.size w w') := Lib.hid (fun w h => Leaf_any T w (by omega) h)
  have H3 : Hid (∀ w, TabAt w → Calls Tryd.prog 17 #[.string S, .string T] w fun e w' => e = .returned (.string (nodeB S T)) ∧ Below w.heap.size w w') := Lib.hid (fun w h => Node_any S T w (by omega) (by omega) h)
  have H4 : Hid (∀ w, TabAt w → Calls Tryd.prog 19 #[.string T, .string S] w fun e w' => e = .returned (.string (chainB T S)) ∧ Below w.heap.size w w') := Lib.hid (fun w h => Chain_any T S w (by omega) (by omega) h)
  have R1 := Lib.hid (fun w => rsum_any S w (by omega))
  have R2 := Lib.hid (fun w => rleaf_any T w (by omega))
  have R3 := Lib.hid (fun w => rnode_any S T w (by omega) (by omega))
  have R4 := Lib.hid (fun w => rchain_any T S w (by omega) (by omega))
  generalize shaB S = d1 at *
  generalize leafB T = d2 at *
  generalize nodeB S T = d3 at *
  generalize chainB T S = d4 at *
  clear hcut hcut'
  go_wp2_with fail
  refine (H1.out _ HT1.out).mono ?_
  rintro e w2 ⟨rfl, hB⟩
  have HB2 := Lib.hid (belowVia hB HB1.out)
  have HT2 := Lib.hid (tabVia hB HT1.out)
  clear hB HB1 HT1
  go_wp2_with fail
  refine (R1.out _).mono ?_
  rintro e w3 ⟨rfl, hB⟩
  have HB3 := Lib.hid (belowVia hB HB2.out)
  have HT3 := Lib.hid (tabVia hB HT2.out)
  clear hB HB2 HT2
  go_wp2_with fail
  refine (H2.out _ HT3.out).mono ?_
  rintro e w4 ⟨rfl, hB⟩
  have HB4 := Lib.hid (belowVia hB HB3.out)
  have HT4 := Lib.hid (tabVia hB HT3.out)
  clear hB HB3 HT3
  go_wp2_with fail
  refine (R2.out _).mono ?_
  rintro e w5 ⟨rfl, hB⟩
  have HB5 := Lib.hid (belowVia hB HB4.out)
  have HT5 := Lib.hid (tabVia hB HT4.out)
  clear hB HB4 HT4
  go_wp2_with fail
  refine (H3.out _ HT5.out).mono ?_
  rintro e w6 ⟨rfl, hB⟩
  have HB6 := Lib.hid (belowVia hB HB5.out)
  have HT6 := Lib.hid (tabVia hB HT5.out)
  clear hB HB5 HT5
  go_wp2_with fail
  refine (R3.out _).mono ?_
  rintro e w7 ⟨rfl, hB⟩
  have HB7 := Lib.hid (belowVia hB HB6.out)
  have HT7 := Lib.hid (tabVia hB HT6.out)
  clear hB HB6 HT6
  go_wp2_with fail
  refine (H4.out _ HT7.out).mono ?_
  rintro e w8 ⟨rfl, hB⟩
  have HB8 := Lib.hid (belowVia hB HB7.out)
  have HT8 := Lib.hid (tabVia hB HT7.out)
  clear hB HB7 HT7
  go_wp2_with fail
  refine (R4.out _).mono ?_
  rintro e w9 ⟨rfl, hB⟩
  have HB9 := Lib.hid (belowVia hB HB8.out)
  have HT9 := Lib.hid (tabVia hB HT8.out)
  clear hB HB8 HT8
  go_wp2_with fail
  go_ret
  exact ⟨rfl, HB9.out⟩
end Go.Proofs.YtdhpighnkoamiaaDoor
