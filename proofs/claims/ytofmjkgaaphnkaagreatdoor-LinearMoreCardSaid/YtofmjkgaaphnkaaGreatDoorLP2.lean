/- Several texts of layers 3 and 4, one behind the other: LinRead, LinRow, LinReadAll, LinSysM, LinPick, RegionK, RegionT, LinCols, LinOwn, LinNum, LinDiv64, LinSplit, LinHalfP, LinHalf, IntRef, IntMag, IntMem, IntTrim, IntCarry. -/
import Derived.Lib.Strings
import Derived.OwnWalk
import Derived.OrdersHeld
import Derived.Deep.MidRow
import Derived.Deep.AppendLies
import Derived.Maps.AppendAt
import Derived.Laws.Bits64b
import Derived.OneCell
import Derived.Test.YtofmjkgaaphnkaaGreatDoorLP1
/- LinRead: The contract of read: the number that a valid integer stands for. -/
namespace Go.Proofs.YtofmjkgaaphnkaaGreatDoor
open Go.RowKit Putlog

theorem natV_snocL (l : List UInt8) (c : UInt8) : natV (l ++ [c]) = 10 * natV l + (c.toNat - 48) := by
 unfold natV decT
 rw [List.reverse_append]
 simp only [List.reverse_cons, List.reverse_nil, List.nil_append, List.singleton_append, List.map_cons, leV]
 omega
theorem trimT (z : Int) : Lib.trimPrefix (intT z) [45] = natT z.natAbs ∧ Lib.hasPrefix (intT z) [45] = decide (z < 0) := by
 unfold Lib.trimPrefix Lib.hasPrefix intT
 by_cases h : z < 0
 ·rw [if_pos h, decide_eq_true h]; simp
 ·rw [if_neg h, decide_eq_false h]
  have hn : ([45] : List UInt8).isPrefixOf (natT z.natAbs) = false := by
   cases e : natT z.natAbs with
   | nil => rfl
   | cons c r =>
    have := natT_head_dig z.natAbs
    rw [e] at this
    simp only [List.isPrefixOf, Bool.and_true, beq_eq_false_iff_ne]
    intro k
    exact this (by rw [← k]; rfl)
  rw [hn]; exact ⟨rfl, rfl⟩
theorem num_small {x : Int} (h0 : 0 ≤ x) (h1 : x < WB) : numL x = [.int .u64 x, .int .u64 0, .int .u64 0, .int .u64 0, .int .u64 0, .int .u64 0, .int .u64 0, .int .u64 0, .int .u64 0, .int .u64 0] := by
 have hz : ∀ i, 1 ≤ i → wd x i = 0 := fun i hi => by
  unfold wd
  have h2 : x < WB ^ i := by
   obtain ⟨j, rfl⟩ : ∃ j, i = j + 1 := ⟨i - 1, by omega⟩
   have h3 := Int.mul_le_mul_of_nonneg_right (show (1 : Int) ≤ WB ^ j by have := wbp_pos j; omega) (Int.le_of_lt wb_pos)
   rw [Int.one_mul] at h3
   rw [Int.pow_succ]
   exact Int.lt_of_lt_of_le h1 h3
  rw [Int.ediv_eq_zero_of_lt h0 h2, Int.zero_emod]
 have h00 : wd x 0 = x := by unfold wd; rw [Int.pow_zero, Int.ediv_one, Int.emod_eq_of_lt h0 h1]
 show [Value.int .u64 (wd x 0), .int .u64 (wd x 1), .int .u64 (wd x 2), .int .u64 (wd x 3), .int .u64 (wd x 4), .int .u64 (wd x 5), .int .u64 (wd x 6), .int .u64 (wd x 7), .int .u64 (wd x 8), .int .u64 (wd x 9)] = _
 rw [h00, hz 1 (by decide), hz 2 (by decide), hz 3 (by decide), hz 4 (by decide), hz 5 (by decide), hz 6 (by decide), hz 7 (by decide), hz 8 (by decide), hz 9 (by decide)]
set_option maxRecDepth 100000 in
set_option maxHeartbeats 1000000 in
theorem read_num (z : Int) (hsz : (natT z.natAbs).length ≤ 1000) (W : World) :
  Calls Tryz.prog 79 #[.string (intB z)] W fun e w' => e = .returned (.agg (numL z).toArray) ∧ Below W.heap.size W w' := by
 have HCP := Lib.hid (fun w => Tryz.strings_CutPrefix (intB z) ⟨#[45]⟩ w)
 have e1 : (intB z).data.toList = intT z := by simp [intB]
 rw [e1] at HCP
 have HCP : Hid (∀ w, Calls Tryz.prog 109 #[.string (intB z), .string ⟨#[45]⟩] w fun e w' => e = .returned (.tuple #[.string ⟨(natT z.natAbs).toArray⟩, .bool (decide (z < 0))]) ∧ w' = w) := fun w => by
  have h := HCP.out w
  rw [show ((⟨#[45]⟩ : ByteArray).data.toList) = [45] from rfl, (trimT z).1, (trimT z).2] at h
  exact h
 have HDG := Lib.hid (natT_dig z.natAbs)
 have HVL := Lib.hid (natT_val z.natAbs)
 obtain ⟨D, hD⟩ : ∃ D : ByteArray, D = ⟨(natT z.natAbs).toArray⟩ := ⟨_, rfl⟩
 have HDL : Hid (D.data.toList = natT z.natAbs) := by show _ = _; rw [hD]
 have hDs : D.size = (natT z.natAbs).length := by rw [hD]; show (natT z.natAbs).toArray.size = _; simp
 rw [← hD] at HCP
 have HDS := Lib.hid hDs
 have hDb : (D.size : Int) ≤ 1000 := by omega
 generalize intB z = S at *
 clear hD hDs hsz e1
 go_enter Tryz.func79, Tryz.ntmps79
 go_wp2_with fail
 have hb1 := alloc_belowL W (.cells zeroL.toArray 81)
 have g1 := heap_alloc_new W (.cells zeroL.toArray 81)
 change Calls _ _ _ (W.alloc (.cells zeroL.toArray 81)) _
 have HB := Lib.hid hb1
 have N1 : Hid (NumB W.heap.size zeroL _) := Lib.hid g1
 have HS1 : Hid ((W.alloc (.cells zeroL.toArray 81)).heap.size = W.heap.size + 1) := alloc_sizeL _ _
 clear hb1 g1
 generalize W.alloc (.cells zeroL.toArray 81) = w0 at *
 refine (HCP.out _).mono ?_
 rintro e w1 ⟨rfl, rfl⟩
 go_wp2_with fail
 change Code.wp _ _ _ _ (w1.alloc (.cells zeroL.toArray 81))
 have hb2 := alloc_belowL w1 (.cells zeroL.toArray 81)
 have g2 := heap_alloc_new w1 (.cells zeroL.toArray 81)
 have HB2 := Lib.hid (belowVia hb2 HB.out)
 have M1 := Lib.hid (N1.out.via hb2)
 have M2 : Hid (NumB w1.heap.size (numL (natV (D.data.toList.take 0))) _) := Lib.hid (by show NumB _ (numL 0) _; rw [num_zero]; exact g2)
 have hps : w1.heap.size = W.heap.size + 1 := HS1.out
 rw [hps] at M2 ⊢
 clear hb2 g2 hps HS1 N1 HB HCP
 generalize w1.alloc (.cells zeroL.toArray 81) = w2 at *
 obtain ⟨neg, hneg⟩ : ∃ neg, neg = decide (z < 0) := ⟨_, rfl⟩
 rw [← hneg]
 have HNEG := Lib.hid hneg
 clear hneg
 go_loopw [6, 7, 15] (fun a b i wr => ∃ k : Nat, k ≤ D.size ∧ i = .int .i64 k ∧ NumB W.heap.size zeroL wr ∧ NumB (W.heap.size + 1) (numL (natV (D.data.toList.take k))) wr ∧ Below W.heap.size W wr) (fun _ _ i _ => D.size - (intOf i).toNat)
 case atStart => exact ⟨0, Nat.zero_le _, rfl, M1.out, M2.out, HB2.out⟩
 case round =>
  clear M1 M2 HB2
  obtain ⟨k, hk, rfl, n1, n2, hB⟩ := hrel
  have N1 := Lib.hid n1
  have N2 := Lib.hid n2
  have HB := Lib.hid hB
  clear n1 n2 hB
  by_cases hlt : k < D.size
  ·have hlt' : (k : Int) < D.size := by omega
   have hkl : k < D.data.toList.length := by rw [Array.length_toList]; exact hlt
   have hsn : natV (D.data.toList.take (k + 1)) = 10 * natV (D.data.toList.take k) + ((D[k]'hlt).toNat - 48) := by
    rw [List.take_succ_eq_append_getElem hkl, natV_snocL]; rfl
   have hdg : IsDig (D[k]'hlt) := HDG.out _ (by rw [← HDL.out]; exact List.getElem_mem hkl)
   unfold IsDig at hdg
   obtain ⟨d, hd⟩ : ∃ d, d = (D[k]'hlt).toNat - 48 := ⟨_, rfl⟩
   rw [← hd] at hsn
   have HM8 : Hid ((((D[k]'hlt).toNat : Int) - 48) % 256 = (d : Nat)) := by show _ = _; omega
   have hdb : d ≤ 9 := by omega
   have hns := num_small (x := (d : Int)) (by omega) (by unfold WB; omega)
   have hval : ((d : Int)) + ((natV (D.data.toList.take k) : Nat) : Int) * 10 * WB ^ 0 = ((natV (D.data.toList.take (k + 1)) : Nat) : Int) := by
    rw [hsn, Int.pow_zero, Int.mul_one]; omega
   have HA := Lib.hid (fun p g w hz hy hne => add_num (d : Int) (natV (D.data.toList.take k) : Nat) 10 0 p g 0 w (by decide) (by decide) (by decide) hz hy hne)
   rw [hval] at HA
   have HNX := Lib.hid hns
   have hdb' : (d : Int) ≤ 9 := by omega
   obtain ⟨y, hy⟩ : ∃ y : Int, y = ((natV (D.data.toList.take k) : Nat) : Int) := ⟨_, rfl⟩
   obtain ⟨y2, hy2⟩ : ∃ y2 : Int, y2 = ((natV (D.data.toList.take (k + 1)) : Nat) : Int) := ⟨_, rfl⟩
   rw [← hy, ← hy2] at HA
   rw [← hy] at N2
   have HY2 := Lib.hid hy2
   clear hkl hsn hdg hd hns hval hy hy2 hdb
   go_upto_region 7 with fail
   rw [HM8.out]
   clear HM8
   change Code.wp _ _ _ _ (wr.alloc (.cells (#[.int .u64 (d : Int), .int .u64 0, .int .u64 0, .int .u64 0, .int .u64 0, .int .u64 0, .int .u64 0, .int .u64 0, .int .u64 0, .int .u64 0] : Array Value) 81))
   have hb3 := alloc_belowL wr (.cells (#[.int .u64 (d : Int), .int .u64 0, .int .u64 0, .int .u64 0, .int .u64 0, .int .u64 0, .int .u64 0, .int .u64 0, .int .u64 0, .int .u64 0] : Array Value) 81)
   have g3 := heap_alloc_new wr (.cells (#[.int .u64 (d : Int), .int .u64 0, .int .u64 0, .int .u64 0, .int .u64 0, .int .u64 0, .int .u64 0, .int .u64 0, .int .u64 0, .int .u64 0] : Array Value) 81)
   have M3 : Hid (NumB wr.heap.size (numL (d : Int)) _) := Lib.hid (by unfold NumB; rw [HNX.out]; exact g3)
   have MB := Lib.hid (belowVia hb3 HB.out)
   have M1 := Lib.hid (N1.out.via hb3)
   have M2 := Lib.hid (N2.out.via hb3)
   have hsz : W.heap.size + 1 < wr.heap.size := (Array.getElem?_eq_some_iff.1 N2.out).1
   clear hb3 g3 N1 N2 HNX
   generalize wr.alloc (.cells (#[.int .u64 (d : Int), .int .u64 0, .int .u64 0, .int .u64 0, .int .u64 0, .int .u64 0, .int .u64 0, .int .u64 0, .int .u64 0, .int .u64 0] : Array Value) 81) = w3 at *
   have hA := HA.out wr.heap.size (W.heap.size + 1) w3 M3.out (fun j hj => by rw [Nat.zero_add]; exact M2.out.cell (numL_get y hj)) (by omega)
   generalize wr.heap.size = P at *
   clear HA
   go_wp2_with fail
   refine hA.mono ?_
   rintro e w4 ⟨rfl, nn, ho⟩
   have NN := Lib.hid nn
   have N1 := Lib.hid (ho.num M1.out (by omega))
   have N2 := Lib.hid (ho.num M2.out (by omega))
   have NB := Lib.hid (ho.below MB.out (by omega))
   clear nn ho hA M1 M2 M3 MB
   have hst := store_num N2.out (numL_len y) (numL_len y2) (numL_one y2)
   have hset := setCells_whole (cs := (numL y).toArray) (numL y2) rfl N2.out
   have hrg := num_range NN.out
   have hsz10 : (Tryz.prog.info? 81).map (·.size) = some (numL y2).length := by rw [info_numW, numL_len]
   have X1 : Hid (NumB W.heap.size zeroL (w4.setCells (W.heap.size + 1) 0 (numL y2))) := (setCells_other _ _ _ _ _ (by omega)).trans N1.out
   have X2 : Hid (NumB (W.heap.size + 1) (numL ((natV (D.data.toList.take (k + 1)) : Nat) : Int)) (w4.setCells (W.heap.size + 1) 0 (numL y2))) := by rw [← HY2.out]; exact hset
   have XB := Lib.hid (below_setCells (W.heap.size + 1) (by omega) (numL y2) w4 0 NB.out)
   have hlen := numL_len y2
   clear hset HY2
   go_upto_region 8 with fail
   generalize numL y2 = l2 at *
   go_wp2_with (refine wpList_load_mid rfl _ _ rfl P 0 rfl l2 _ hrg Tryz.underlying81 rfl hsz10 ?_)
   exact ⟨⟨k + 1, by omega, by go_num, X1.out, X2.out, XB.out⟩, by simp [intOf]; omega⟩
  ·obtain rfl : k = D.size := by omega
   rw [show D.data.toList.take D.size = natT z.natAbs by rw [← HDL.out, List.take_of_length_le (by rw [Array.length_toList]; exact Nat.le_refl _)], HVL.out] at N2
   have hn : neg = decide (z < 0) := HNEG.out
   cases neg with
   | true =>
    have hz : ((z.natAbs : Nat) : Int) = -z := by have := of_decide_eq_true hn.symm; omega
    rw [hz] at N2
    have HM := Lib.hid (fun w => minus_num 0 (-z) w)
    rw [show (0 : Int) - -z = z by omega, num_zero] at HM
    have hrg := num_range N2.out
    have hsz10 : (Tryz.prog.info? 81).map (·.size) = some (numL (-z)).length := by rw [info_numW, numL_len]
    have hlen := numL_len (-z)
    have hst := fun w (h : NumB W.heap.size zeroL w) => store_num h rfl (numL_len z) (numL_one z)
    have HST := Lib.hid hst
    have HLZ := numL_len z
    have HSW : Hid (∀ w, NumB W.heap.size zeroL w → NumB W.heap.size (numL z) (w.setCells W.heap.size 0 (numL z))) := fun w h => setCells_whole (cs := zeroL.toArray) (numL z) rfl h
    clear hst hz hn HNEG HDG HVL HDL HDS
    generalize numL (-z) = l2 at *
    obtain ⟨lz, hlz⟩ : ∃ lz, lz = numL z := ⟨_, rfl⟩
    rw [← hlz] at HM HST HLZ HSW
    have HLE := Lib.hid hlz
    clear hlz
    go_wp2_with (refine wpList_load_mid rfl _ _ rfl (W.heap.size + 1) 0 rfl l2 _ hrg Tryz.underlying81 rfl hsz10 ?_)
    refine (HM.out _).mono ?_
    rintro e w5 ⟨rfl, hB⟩
    have NB := Lib.hid (belowVia hB HB.out)
    have NZ := Lib.hid (N1.out.via hB)
    clear hB
    have hst := HST.out _ NZ.out
    go_wp2_with fail
    refine bodyPost_ret (results_num rfl _ _ W.heap.size lz HLZ rfl (HSW.out _ NZ.out)) rfl ?_
    exact ⟨by rw [HLE.out], below_setCells _ (Nat.le_refl _) _ _ _ NB.out⟩
   | false =>
    have hz : ((z.natAbs : Nat) : Int) = z := by have := of_decide_eq_false hn.symm; omega
    rw [hz] at N2
    have hrg := num_range N2.out
    have hsz10 : (Tryz.prog.info? 81).map (·.size) = some (numL z).length := by rw [info_numW, numL_len]
    have hst := store_num N1.out rfl (numL_len z) (numL_one z)
    have HLZ := numL_len z
    have HSW : Hid (NumB W.heap.size (numL z) (wr.setCells W.heap.size 0 (numL z))) := setCells_whole (cs := zeroL.toArray) (numL z) rfl N1.out
    clear hz hn HNEG HDG HVL HDL HDS
    obtain ⟨lz, hlz⟩ : ∃ lz, lz = numL z := ⟨_, rfl⟩
    rw [← hlz] at hrg hsz10 hst HLZ HSW
    have HLE := Lib.hid hlz
    clear hlz
    go_wp2_with (refine wpList_load_mid rfl _ _ rfl (W.heap.size + 1) 0 rfl lz _ hrg Tryz.underlying81 rfl hsz10 ?_)
    refine bodyPost_ret (results_num rfl _ _ W.heap.size lz HLZ rfl HSW.out) rfl ?_
    exact ⟨by rw [HLE.out], below_setCells _ (Nat.le_refl _) _ _ _ HB.out⟩
end Go.Proofs.YtofmjkgaaphnkaaGreatDoor
/- LinRow: A row of numbers in memory; the contract of readAll. -/
namespace Go.Proofs.YtofmjkgaaphnkaaGreatDoor
open Go.RowKit Putlog

/-- The words of numbers, one after the other. -/
def rowL (l : List Int) : List Value := l.flatMap numL
theorem rowL_cons (x : Int) (l : List Int) : rowL (x :: l) = numL x ++ rowL l := rfl
theorem rowL_append (a b : List Int) : rowL (a ++ b) = rowL a ++ rowL b := List.flatMap_append
theorem rowL_len : ∀ l : List Int, (rowL l).length = l.length * 10
 | [] => rfl
 | x :: l => by rw [rowL_cons, List.length_append, rowL_len l, numL_len, List.length_cons]; omega
theorem rowL_split {l : List Int} {i : Nat} (h : i < l.length) : rowL l = rowL (l.take i) ++ (numL (l.getD i 0) ++ rowL (l.drop (i + 1))) := by
 have e : l = l.take i ++ (l.getD i 0 :: l.drop (i + 1)) := by
  have h1 : l.getD i 0 = l[i] := by rw [List.getD_eq_getElem?_getD, List.getElem?_eq_getElem h]; rfl
  rw [h1, ← List.drop_eq_getElem_cons h, List.take_append_drop]
 conv => lhs; rw [e]
 rw [rowL_append, rowL_cons]
theorem rowL_pre {l : List Int} {i : Nat} (h : i < l.length) : (rowL (l.take i)).length = i * 10 := by rw [rowL_len, List.length_take, Nat.min_eq_left (by omega)]
theorem rowL_set {l : List Int} {i : Nat} (h : i < l.length) (z : Int) : rowL (l.set i z) = rowL (l.take i) ++ (numL z ++ rowL (l.drop (i + 1))) := by
 have h1 := rowL_split (l := l.set i z) (i := i) (by simpa using h)
 have h2 : (l.set i z).getD i 0 = z := by rw [List.getD_eq_getElem?_getD, List.getElem?_set_self h]; rfl
 have h3 : (l.set i z).take i = l.take i := by
  rw [List.take_set_of_le (Nat.le_refl _)]
 have h4 : (l.set i z).drop (i + 1) = l.drop (i + 1) := List.drop_set_of_lt (by omega)
 rw [h2, h3, h4] at h1
 exact h1
theorem rowL_get {l : List Int} {i j : Nat} (h : i < l.length) (hj : j < 10) : (rowL l)[i * 10 + j]? = some (.int .u64 (wd (l.getD i 0) j)) := by
 rw [rowL_split h, ← rowL_pre h]
 exact mid_get _ _ (numL_get _ hj)
theorem NumB.nums {w : World} {g : Nat} {l : List Int} (h : NumB g (rowL l) w) : NumsFrom w g 0 l := fun i hi j hj => by
 rw [Nat.zero_add]; exact h.cell (rowL_get hi hj)
theorem rowL_zero : ∀ n : Nat, rowL (List.replicate n 0) = List.replicate (n * 10) (.int .u64 0)
 | 0 => rfl
 | n + 1 => by
  rw [List.replicate_succ, rowL_cons, rowL_zero n, num_zero, show (n + 1) * 10 = 10 + n * 10 by omega, ← List.replicate_append_replicate]; rfl
theorem made_zero (n : Nat) : (madeCells (Value.agg zeroL.toArray).cells (n * 10)).toList = rowL (List.replicate n 0) := by
 rw [rowL_zero]
 have hz : (Value.agg zeroL.toArray).cells = zeroL.toArray := by simp [Value.cells, zeroL]
 rw [hz]
 unfold madeCells
 apply List.ext_getElem?
 intro j
 by_cases h : j < n * 10
 ·rw [List.getElem?_replicate, if_pos h]
  simp only [Array.toList_map, Array.toList_range, List.getElem?_map, List.getElem?_range h, Option.map_some]
  have hm : j % 10 < 10 := Nat.mod_lt _ (by decide)
  have : zeroL.toArray[j % zeroL.toArray.size]! = .int .u64 0 := by
   have e : zeroL.toArray.size = 10 := rfl
   rw [e]
   have e2 : zeroL.toArray[j % 10]? = some (.int .u64 0) := by
    rw [List.getElem?_toArray]; unfold zeroL; rw [List.getElem?_replicate, if_pos hm]
   rw [getElem!_def, e2]
  rw [this]
 ·rw [List.getElem?_eq_none (by simp; omega), List.getElem?_eq_none (by simp; omega)]
theorem num_made {w w1 : World} {n : Nat} (hown : w1.ownsRow w.heap.size 81 10 (.slice (some ⟨w.heap.size, 0, none⟩) n n) n (madeCells (Value.agg zeroL.toArray).cells (n * 10)).toList) : NumB w.heap.size (rowL (List.replicate n 0)) w1 := by
 rw [made_zero] at hown
 rcases hown.2 with ⟨h, _⟩ | ⟨g, cap, cur, h1, _, h3, _, _, h6, h7⟩
 ·cases h
 ·cases h1
  unfold NumB
  rw [h3, ← h7, List.take_of_length_le (by rw [Array.length_toList, h6]; exact Nat.le_refl _)]
theorem info_number : (Tryz.prog.info? 81).map (fun i => (i.zero, i.size, i.bytes)) = some (some (.agg zeroL.toArray), 10, 80) := by kernel_rfl
theorem info_numbers : ∃ i, Tryz.prog.info? 81 = some i ∧ i.zero = some (.agg zeroL.toArray) ∧ i.size = 10 ∧ i.bytes = 80 := by
 have h := info_number
 cases hi : Tryz.prog.info? 81 with
 | none => rw [hi] at h; cases h
 | some i =>
  rw [hi] at h
  simp only [Option.map_some, Option.some.injEq, Prod.mk.injEq] at h
  exact ⟨i, rfl, h.1, h.2.1, h.2.2⟩
/-- Writing over a part in the middle. -/
theorem setCells_mid (g : Nat) (t : TypeId) (post : List Value) : ∀ (vs : List Value) (w : World) (pre cs : List Value), cs.length = vs.length → w.heap[g]? = some (.cells (pre ++ (cs ++ post)).toArray t (0, 0)) → (w.setCells g pre.length vs).heap[g]? = some (.cells (pre ++ (vs ++ post)).toArray t (0, 0))
 | [], w, pre, cs, hl, h => by
  obtain rfl : cs = [] := List.length_eq_zero_iff.1 hl
  exact h
 | v :: r, w, pre, cs, hl, h => by
  cases cs with
  | nil => cases hl
  | cons c cs =>
   have h1 := heap_setCell_same w g pre.length _ _ v h
   have e : ((pre ++ (c :: cs ++ post)).toArray.setIfInBounds pre.length v) = (pre ++ [v] ++ (cs ++ post)).toArray := by
    rw [List.setIfInBounds_toArray, List.set_append_right _ _ (Nat.le_refl _)]; simp
   rw [e] at h1
   have h2 := setCells_mid g t post r (w.setCell ⟨g, pre.length, none⟩ v) (pre ++ [v]) cs (by simpa using hl) h1
   rw [World.setCells]
   simpa using h2
theorem only_setCells (g : Nat) : ∀ (vs : List Value) (w w' : World) (o : Nat), OnlyAt g w w' → OnlyAt g w (w'.setCells g o vs)
 | [], _, _, _, h => h
 | v :: r, w, w', o, h => by rw [World.setCells]; exact only_setCells g r _ _ _ (h.set o v)
/-- A number of a row is written. -/
theorem store_row {w : World} {g : Nat} {l : List Int} {i : Nat} (h : NumB g (rowL l) w) (hi : i < l.length) (z : Int) :
  (storeCells ⟨g, i * 10, none⟩ (numL z) 0).run Tryz.prog w = .ok () (w.setCells g (i * 10) (numL z)) ∧ NumB g (rowL (l.set i z)) (w.setCells g (i * 10) (numL z)) := by
 refine ⟨?_, ?_⟩
 ·have hx : ∀ j, j < 10 → ((w.cell? ⟨g, i * 10 + j, none⟩).isSome = true ∧ w.frozen? ⟨g, i * 10 + j, none⟩ = false) := fun j hj => by
   rw [h.cell (rowL_get hi hj)]; exact ⟨rfl, h.froz _⟩
  have := run_storeCells_cells (P := Tryz.prog) g (i * 10) (numL z) 0 w (fun j hj => by have := (hx j hj).1; simpa using this) (fun j hj => by have := (hx j hj).2; simpa using this) (numL_one z)
  simpa using this
 ·have h' := h
  unfold NumB at h' ⊢
  rw [rowL_split hi] at h'
  have := setCells_mid g _ _ (numL z) w _ (numL (l.getD i 0)) rfl h'
  rw [rowL_pre hi] at this
  rw [this, rowL_set hi]
/-- A slice of strings. -/
def StrsFrom (w : World) (a : Option Addr) (l : List ByteArray) : Prop := l = [] ∨ ∃ g o, a = some ⟨g, o, none⟩ ∧ ∀ j, j < l.length → w.cell? ⟨g, o + j, none⟩ = some (.string (l.getD j ByteArray.empty))
theorem StrsFrom.via {w w' : World} {a : Option Addr} {l : List ByteArray} (h : StrsFrom w a l) (hB : Below w.heap.size w w') : StrsFrom w' a l := by
 rcases h with h | ⟨g, o, h1, h2⟩
 ·exact .inl h
 ·exact .inr ⟨g, o, h1, fun j hj => keptBelow hB (h2 j hj)⟩
end Go.Proofs.YtofmjkgaaphnkaaGreatDoor
/- LinReadAll: The contract of readAll. -/
namespace Go.Proofs.YtofmjkgaaphnkaaGreatDoor
open Go.RowKit Putlog

theorem belowMadeL {w w1 : World} (hg : w.grownBy w1 none) : Below w.heap.size w w1 := (Below.refl w.heap.size w).grown hg (Nat.le_refl _) (fun k e => by cases e)
set_option maxRecDepth 100000 in
set_option maxHeartbeats 1000000 in
theorem readAll_num (zs : List Int) (a : Option Addr) (ca : Nat) (W : World) (hl : StrsFrom W a (zs.map intB)) (hd : ∀ z ∈ zs, (natT z.natAbs).length ≤ 1000) (hn : zs.length ≤ ca) (hlb : zs.length ≤ 1000000) (hca : (ca : Int) ≤ 9223372036854775807) :
  Calls Tryz.prog 46 #[.slice a zs.length ca] W fun e w' => (∃ g, e = .returned (.slice (some ⟨g, 0, none⟩) zs.length zs.length) ∧ W.heap.size ≤ g ∧ NumB g (rowL zs) w') ∧ Below W.heap.size W w' := by
 obtain ⟨i0, hi0, hz0, hz1, hz2⟩ := info_numbers
 have HI0 := Lib.hid hi0
 have HZ0 := Lib.hid hz0
 have HZ1 := Lib.hid hz1
 have HZ2 := Lib.hid hz2
 have HSTR := Lib.hid hl
 have HD := Lib.hid hd
 obtain ⟨n, hnn⟩ : ∃ n, n = zs.length := ⟨_, rfl⟩
 have HN := Lib.hid hnn
 rw [← hnn] at hn hlb ⊢
 have hnb : (n : Int) ≤ 1000000 := by omega
 have hnc : (n : Int) ≤ ca := by omega
 clear hi0 hz0 hz1 hz2 hl hd hnn hn hlb
 go_enter Tryz.func46, Tryz.ntmps46
 go_wp2_with (at_make; go_must (refine wpList_make_full _ rfl _ _ 77 rfl W.heap.size 81 i0 (.agg zeroL.toArray) 10 Tryz.underlying77 HI0.out HZ0.out HZ1.out .i64 .i64 (n : Int) (n : Int) n rfl rfl rfl rfl (by rw [HZ2.out]; omega) (by unfold maxLen; omega) (Nat.le_refl _) ?_); intro w1 hown hgrow; have HR := Lib.hid (num_made hown); have HB := Lib.hid (belowMadeL hgrow); clear hown hgrow)
 go_loopw [4, 5, 11] (fun x y i wr => ∃ k : Nat, k ≤ n ∧ i = .int .i64 k ∧ NumB W.heap.size (rowL (zs.take k ++ List.replicate (n - k) 0)) wr ∧ Below W.heap.size W wr) (fun _ _ i _ => n - (intOf i).toNat)
 case atStart => exact ⟨0, Nat.zero_le _, rfl, by simpa using HR.out, HB.out⟩
 case round =>
  clear HR HB
  obtain ⟨k, hk, rfl, n1, hB⟩ := hrel
  have N1 := Lib.hid n1
  have HB := Lib.hid hB
  clear n1 hB
  by_cases hlt : k < n
  ·have hlt' : (k : Int) < n := by omega
   have hkl : k < zs.length := by have := HN.out; omega
   have hcell : ∃ g2 o2, a = some ⟨g2, o2, none⟩ ∧ wr.cell? ⟨g2, o2 + k, none⟩ = some (.string (intB (zs.getD k 0))) := by
    rcases HSTR.out with h | ⟨g2, o2, h1, h2⟩
    ·have := congrArg List.length h; simp at this; rw [this] at hkl; simp at hkl
    ·refine ⟨g2, o2, h1, ?_⟩
     have h3 := h2 k (by simpa using hkl)
     rw [List.getD_eq_getElem?_getD, List.getElem?_map, List.getElem?_eq_getElem hkl] at h3
     rw [List.getD_eq_getElem?_getD, List.getElem?_eq_getElem hkl]
     exact keptBelow HB.out h3
   obtain ⟨g2, o2, rfl, c0⟩ := hcell
   have hzd := HD.out (zs.getD k 0) (by rw [List.getD_eq_getElem?_getD, List.getElem?_eq_getElem hkl]; exact List.getElem_mem hkl)
   have HRD := Lib.hid (fun w => read_num (zs.getD k 0) hzd w)
   have hlen : (zs.take k ++ List.replicate (n - k) 0).length = n := by simp; omega
   have hki : k < (zs.take k ++ List.replicate (n - k) 0).length := by omega
   have hst : ∀ w, NumB W.heap.size (rowL (zs.take k ++ List.replicate (n - k) 0)) w → _ := fun w h => store_row h hki (zs.getD k 0)
   have hset : (zs.take k ++ List.replicate (n - k) 0).set k (zs.getD k 0) = zs.take (k + 1) ++ List.replicate (n - (k + 1)) 0 := by
    rw [List.set_append_right _ _ (by simp; omega), show (zs.take k).length = k by simp; omega, Nat.sub_self, show n - k = (n - (k + 1)) + 1 by omega, List.replicate_succ, List.set_cons_zero, List.take_succ_eq_append_getElem hkl]
    rw [List.getD_eq_getElem?_getD, List.getElem?_eq_getElem hkl, List.append_assoc]; rfl
   rw [hset] at hst
   have HST := Lib.hid hst
   have hzl := numL_len (zs.getD k 0)
   clear hkl hzd hlen hki hset hst
   generalize zs.getD k 0 = z at *
   go_wp2_with fail
   refine (HRD.out _).mono ?_
   rintro e w5 ⟨rfl, hB⟩
   have HB5 := Lib.hid (belowVia hB HB.out)
   have N5 := Lib.hid (N1.out.via hB)
   obtain ⟨hs1, hs2⟩ := HST.out w5 N5.out
   have N6 := Lib.hid hs2
   have HB6 := Lib.hid (below_setCells W.heap.size (Nat.le_refl _) (numL z) w5 (k * 10) HB5.out)
   clear hB HB N1 HST hs2 HRD HSTR HN HD
   generalize numL z = lz at *
   go_wp2_with fail
   exact ⟨⟨k + 1, by omega, by go_num, N6.out, HB6.out⟩, by simp [intOf]; omega⟩
  ·obtain rfl : k = n := by omega
   rw [Nat.sub_self, List.replicate_zero, List.append_nil, HN.out, List.take_length] at N1
   go_wp2_with fail
   go_ret
   exact ⟨⟨_, rfl, Nat.le_refl _, N1.out⟩, HB.out⟩
end Go.Proofs.YtofmjkgaaphnkaaGreatDoor
/- LinSysM: A system in memory; the contracts of within and Valid. -/
namespace Go.Proofs.YtofmjkgaaphnkaaGreatDoor
open Go.RowKit Putlog

def I64 (z : Int) : Prop := -9223372036854775808 ≤ z ∧ z ≤ 9223372036854775807
/-- A row of a system in memory. -/
structure RowM (w : World) (g o : Nat) (r : List Int × Int) : Prop where
 ex : ∃ ra rc, w.cell? ⟨g, o, none⟩ = some (.slice ra r.1.length rc) ∧ w.cell? ⟨g, o + 1, none⟩ = some (.int .i64 r.2) ∧ r.1.length ≤ rc ∧ (rc : Int) ≤ 9223372036854775807 ∧ IntsFrom w ra r.1
 coef : ∀ x ∈ r.1, I64 x
 val : I64 r.2
theorem RowM.via {w w' : World} {g o : Nat} {r : List Int × Int} (h : RowM w g o r) (hB : Below w.heap.size w w') : RowM w' g o r := by
 obtain ⟨ra, rc, h1, h2, h3, h4, h5⟩ := h.ex
 exact ⟨⟨ra, rc, keptBelow hB h1, keptBelow hB h2, h3, h4, h5.via hB⟩, h.coef, h.val⟩
/-- A system in memory. -/
structure SysM (w : World) (s : SysP) (a : Option Addr) (ca : Nat) : Prop where
 len : s.rows.length ≤ ca
 cap : (ca : Int) ≤ 9223372036854775807
 cols : I64 s.cols
 rows : s.rows = [] ∨ ∃ g o, a = some ⟨g, o, none⟩ ∧ ∀ k, k < s.rows.length → RowM w g (o + k * 2) (s.rows.getD k ([], 0))
theorem SysM.via {w w' : World} {s : SysP} {a : Option Addr} {ca : Nat} (h : SysM w s a ca) (hB : Below w.heap.size w w') : SysM w' s a ca := by
 refine ⟨h.len, h.cap, h.cols, ?_⟩
 rcases h.rows with h0 | ⟨g, o, h1, h2⟩
 ·exact .inl h0
 ·exact .inr ⟨g, o, h1, fun k hk => (h2 k hk).via hB⟩
theorem SysM.row {w : World} {s : SysP} {a : Option Addr} {ca : Nat} (h : SysM w s a ca) {k : Nat} (hk : k < s.rows.length) : ∃ g o, a = some ⟨g, o, none⟩ ∧ RowM w g (o + k * 2) (s.rows.getD k ([], 0)) := by
 rcases h.rows with h0 | ⟨g, o, h1, h2⟩
 ·rw [h0] at hk; simp at hk
 ·exact ⟨g, o, h1, h2 k hk⟩
theorem within_c (n b : Int) (hb : 0 ≤ b) (hb2 : b ≤ 1000000000) (w : World) : Calls Tryz.prog 43 #[.int .i64 n, .int .i64 b] w fun e w' => e = .returned (.bool (inB b n)) ∧ w' = w := by
 have hw : IntKind.i64.wrap (-b) = -b := by rw [IntKind.wrap_i64]; omega
 by_cases h : -b ≤ n
 ·have e : inB b n = decide (n ≤ b) := by unfold inB; simp [h]
  rw [e]
  clear e
  go_enter Tryz.func43, Tryz.ntmps43
  go_wp2_with fail
  go_ret
  exact ⟨rfl, rfl⟩
 ·have e : inB b n = false := by unfold inB; simp [h]
  rw [e]
  clear e
  go_enter Tryz.func43, Tryz.ntmps43
  go_wp2_with fail
  go_ret
  exact ⟨rfl, rfl⟩
theorem all_take {α : Type} {p : α → Bool} {l : List α} {k : Nat} (h : (l.take k).all p = true) (hk : k < l.length) (hp : p l[k] = true) : (l.take (k + 1)).all p = true := by
 rw [List.take_succ_eq_append_getElem hk, List.all_append, h]; simp [hp]
theorem not_all {α : Type} {p : α → Bool} {l : List α} {k : Nat} (hk : k < l.length) (hp : p l[k] = false) : l.all p = false := by
 rw [List.all_eq_false]; exact ⟨l[k], List.getElem_mem hk, by simp [hp]⟩
set_option maxRecDepth 100000 in
set_option maxHeartbeats 1000000 in
theorem valid_no (s : SysP) (a : Option Addr) (ca : Nat) (W : World) (h : ¬ (0 ≤ s.cols ∧ s.cols ≤ 64 ∧ s.rows.length ≤ 18)) :
  Calls Tryz.prog 15 #[.agg #[.int .i64 s.cols, .slice a s.rows.length ca]] W fun e w' => e = .returned (.bool false) ∧ Below W.heap.size W w' := by
 obtain ⟨n, hn⟩ : ∃ n, n = s.rows.length := ⟨_, rfl⟩
 obtain ⟨c, hc⟩ : ∃ c, c = s.cols := ⟨_, rfl⟩
 rw [← hn, ← hc] at h ⊢
 have hB := alloc_belowL W (.cells #[.int .i64 c, .slice a n ca] 27)
 have HB := Lib.hid hB
 clear hn hc hB
 by_cases h1 : c < 0
 ·clear h
  go_enter Tryz.func15, Tryz.ntmps15
  go_wp2_with fail
  go_ret
  exact ⟨rfl, HB.out⟩
 ·by_cases h2 : 64 < c
  ·clear h
   go_enter Tryz.func15, Tryz.ntmps15
   go_wp2_with fail
   go_ret
   exact ⟨rfl, HB.out⟩
  ·have h3 : (18 : Int) < n := by omega
   clear h
   go_enter Tryz.func15, Tryz.ntmps15
   go_wp2_with fail
   go_ret
   exact ⟨rfl, HB.out⟩
theorem getD_rows {s : SysP} {k : Nat} (hk : k < s.rows.length) : s.rows.getD k ([], 0) = s.rows[k] := by rw [List.getD_eq_getElem?_getD, List.getElem?_eq_getElem hk]; rfl
theorem getD_ints {l : List Int} {k : Nat} (hk : k < l.length) : l.getD k 0 = l[k] := by rw [List.getD_eq_getElem?_getD, List.getElem?_eq_getElem hk]; rfl
set_option maxRecDepth 100000 in
set_option maxHeartbeats 4000000 in
theorem valid_yes (s : SysP) (a : Option Addr) (ca : Nat) (W : World) (hs : SysM W s a ca) (h : 0 ≤ s.cols ∧ s.cols ≤ 64 ∧ s.rows.length ≤ 18) :
  Calls Tryz.prog 15 #[.agg #[.int .i64 s.cols, .slice a s.rows.length ca]] W fun e w' => e = .returned (.bool (s.rows.all (rowOk s.cols))) ∧ Below W.heap.size W w' := by
 obtain ⟨n, hn⟩ : ∃ n, n = s.rows.length := ⟨_, rfl⟩
 obtain ⟨c, hc⟩ : ∃ c, c = s.cols := ⟨_, rfl⟩
 have HS := Lib.hid hs
 have HWI := Lib.hid (fun n b h1 h2 w => within_c n b h1 h2 w)
 have hb1 := alloc_belowL W (.cells #[.int .i64 c, .slice a n ca] 27)
 have g1 := heap_alloc_new W (.cells #[.int .i64 c, .slice a n ca] 27)
 have C0 := Lib.hid ((cell_of_row _ _ 0 _ _ _ g1).trans rfl : (W.alloc (.cells #[.int .i64 c, .slice a n ca] 27)).cell? ⟨W.heap.size, 0, none⟩ = some (.int .i64 c))
 have HB := Lib.hid hb1
 rw [← hn, ← hc] at h ⊢
 have hc0 := h.1
 have hc1 := h.2.1
 have hn1 : (n : Int) ≤ 18 := by omega
 have HN := Lib.hid hn
 have HC := Lib.hid hc
 have hca : (n : Int) ≤ ca := by have := hs.len; omega
 clear hs hn hc h hb1 g1
 go_enter Tryz.func15, Tryz.ntmps15
 go_wp2_with fail
 change Code.wp _ _ _ _ (W.alloc (.cells #[.int .i64 c, .slice a n ca] 27))
 generalize W.alloc (.cells #[.int .i64 c, .slice a n ca] 27) = w0 at *
 go_loopw [24] (fun i wr => ∃ k : Nat, k ≤ n ∧ i = .int .i64 k ∧ (s.rows.take k).all (rowOk c) = true ∧ wr.cell? ⟨W.heap.size, 0, none⟩ = some (.int .i64 c) ∧ Below W.heap.size W wr) (fun i _ => n - (intOf i).toNat)
 case atStart => exact ⟨0, by omega, rfl, rfl, C0.out, HB.out⟩
 case round =>
  clear C0 HB
  obtain ⟨k, hk, rfl, hall, c0, hB⟩ := hrel
  have HALL := Lib.hid hall
  have HB := Lib.hid hB
  by_cases hlt : k < n
  ·have hlt' : (k : Int) < n := by omega
   have hkl : k < s.rows.length := by have := HN.out; omega
   obtain ⟨g, o, rfl, hr⟩ := HS.out.row hkl
   obtain ⟨ra, rc, d0, d1, d2, d3, d4⟩ := hr.ex
   have d0 := keptBelow hB d0
   have d1 := keptBelow hB d1
   have D4 := Lib.hid d4
   have HCO := Lib.hid hr.coef
   have hge := getD_rows hkl
   have HAT := Lib.hid (fun h => all_take (p := rowOk c) HALL.out hkl h)
   have HNA := Lib.hid (fun h => not_all (p := rowOk c) hkl h)
   rw [← hge] at HAT HNA
   obtain ⟨r, hr⟩ : ∃ r, r = s.rows.getD k ([], 0) := ⟨_, rfl⟩
   rw [← hr] at d0 d1 d2 D4 HCO HAT HNA
   obtain ⟨l, v⟩ := r
   have HRO : Hid (rowOk c (l, v) = (decide ((l.length : Int) = c) && (inB 1000000000 v && l.all (inB 30000)))) := Lib.hid rfl
   clear hr hge hkl hall hB d4
   dsimp only at d0 d1 d2 D4 HCO
   have hll : (0 : Int) ≤ l.length := by omega
   have hlc : (l.length : Int) ≤ rc := by omega
   have hfalse : rowOk c (l, v) = false → s.rows.all (rowOk c) = false := HNA.out
   have HFA := Lib.hid hfalse
   clear hfalse HNA
   have hb2 := alloc_belowL wr (.cells #[.slice ra l.length rc, .int .i64 v] 60)
   have g2 := heap_alloc_new wr (.cells #[.slice ra l.length rc, .int .i64 v] 60)
   have HB2 := Lib.hid (belowVia hb2 HB.out)
   have c2 := keptBelow hb2 c0
   clear hb2 HALL
   obtain ⟨m, hm⟩ : ∃ m, m = l.length := ⟨_, rfl⟩
   rw [← hm] at d0 d2 HRO hll hlc g2 HB2 c2
   have HM' := Lib.hid hm
   clear hm d2
   by_cases hlen : (m : Int) = c
   ·have hne : ((m : Int) != c) = false := by simp [hlen]
    have HLC := Lib.hid hlen
    clear hlen
    cases hin : inB 1000000000 v with
    | false =>
     have HF : Hid (s.rows.all (rowOk c) = false) := Lib.hid (HFA.out (by rw [HRO.out, hin]; simp))
     have HW2 := Lib.hid (fun w => (hin ▸ HWI.out v 1000000000 (by decide) (by decide) w : Calls Tryz.prog 43 #[.int .i64 v, .int .i64 1000000000] w fun e w' => e = .returned (.bool false) ∧ w' = w))
     clear HFA HRO HAT hin
     go_wp2_with fail
     refine (HW2.out _).mono ?_
     rintro e w2 ⟨rfl, rfl⟩
     go_wp2_with fail
     go_ret
     exact ⟨by rw [HF.out]; rfl, HB2.out⟩
    | true =>
     have HRO2 : Hid (rowOk c (l, v) = l.all (inB 30000)) := Lib.hid (by rw [HRO.out, hin, HLC.out]; simp)
     have HW2 := Lib.hid (fun w => (hin ▸ HWI.out v 1000000000 (by decide) (by decide) w : Calls Tryz.prog 43 #[.int .i64 v, .int .i64 1000000000] w fun e w' => e = .returned (.bool true) ∧ w' = w))
     clear hin HRO
     go_wp2_with fail
     refine (HW2.out _).mono ?_
     rintro e w2 ⟨rfl, rfl⟩
     have hB2 := HB2.out
     go_wp2_with fail
     clear hB2
     generalize wr.alloc (.cells #[.slice ra m rc, .int .i64 v] 60) = w2 at *
     go_loopw [43] (fun i wx => ∃ q : Nat, q ≤ m ∧ i = .int .i64 q ∧ (l.take q).all (inB 30000) = true ∧ wx.cell? ⟨W.heap.size, 0, none⟩ = some (.int .i64 c) ∧ Below W.heap.size W wx) (fun i _ => m - (intOf i).toNat)
     case atStart => exact ⟨0, by omega, rfl, rfl, c2, HB2.out⟩
     case round =>
      clear c2 HB2
      obtain ⟨q, hq, rfl, hqa, c3, hB3⟩ := hrel
      have HQA := Lib.hid hqa
      have HB3 := Lib.hid hB3
      clear hqa
      by_cases hqt : q < m
      ·have hqt' : (q : Int) < m := by omega
       have hql : q < l.length := by have := HM'.out; omega
       have hcell : ∃ g2 o2, ra = some ⟨g2, o2, none⟩ ∧ wr.cell? ⟨g2, o2 + q, none⟩ = some (.int .i64 (l.getD q 0)) := by
        rcases D4.out with h | ⟨g2, o2, h1, h2⟩
        ·rw [h] at hql; simp at hql
        ·exact ⟨g2, o2, h1, keptBelow hB3 (h2 q hql)⟩
       obtain ⟨g2, o2, rfl, e0⟩ := hcell
       have hge := getD_ints hql
       have HAT2 := Lib.hid (fun h => all_take (p := inB 30000) HQA.out hql h)
       have HNA2 := Lib.hid (fun h => not_all (p := inB 30000) hql h)
       rw [← hge] at HAT2 HNA2
       clear hge hql hB3 HQA
       obtain ⟨x, hx⟩ : ∃ x, x = l.getD q 0 := ⟨_, rfl⟩
       rw [← hx] at e0 HAT2 HNA2
       clear hx
       cases hin : inB 30000 x with
       | false =>
        have HF : Hid (s.rows.all (rowOk c) = false) := Lib.hid (HFA.out (by rw [HRO2.out]; exact HNA2.out hin))
        have HW3 := Lib.hid (fun w => (hin ▸ HWI.out x 30000 (by decide) (by decide) w : Calls Tryz.prog 43 #[.int .i64 x, .int .i64 30000] w fun e w' => e = .returned (.bool false) ∧ w' = w))
        clear hin HAT2 HNA2 HFA HRO2 HAT
        go_wp2_with fail
        refine (HW3.out _).mono ?_
        rintro e w4 ⟨rfl, rfl⟩
        go_wp2_with fail
        go_ret
        exact ⟨by rw [HF.out]; rfl, HB3.out⟩
       | true =>
        have HQ2 := Lib.hid (HAT2.out hin)
        have HW3 := Lib.hid (fun w => (hin ▸ HWI.out x 30000 (by decide) (by decide) w : Calls Tryz.prog 43 #[.int .i64 x, .int .i64 30000] w fun e w' => e = .returned (.bool true) ∧ w' = w))
        clear hin HAT2 HNA2 HFA HRO2 HAT
        go_wp2_with fail
        refine (HW3.out _).mono ?_
        rintro e w4 ⟨rfl, rfl⟩
        go_wp2_with fail
        go_roundw
        case rel => exact ⟨q + 1, by omega, by go_num, HQ2.out, c3, HB3.out⟩
        case measure => simp [intOf]; omega
      ·obtain rfl : q = m := by omega
       have HK1 : Hid ((s.rows.take (k + 1)).all (rowOk c) = true) := Lib.hid (HAT.out (by rw [HRO2.out]; have := HQA.out; rw [HM'.out, List.take_length] at this; exact this))
       clear HAT HRO2 HFA HQA
       go_wp2_with fail
       go_roundw
       case rel => exact ⟨k + 1, by omega, by go_num, HK1.out, c3, HB3.out⟩
       case measure => simp [intOf]; omega
   ·have hne : ((m : Int) != c) = true := by simp [hlen]
    have HF : Hid (s.rows.all (rowOk c) = false) := Lib.hid (HFA.out (by rw [HRO.out]; simp [hlen]))
    clear HFA HRO HAT hlen
    go_wp2_with fail
    go_ret
    exact ⟨by rw [HF.out]; rfl, HB2.out⟩
  ·obtain rfl : k = n := by omega
   go_wp2_with fail
   go_ret
   refine ⟨?_, HB.out⟩
   have := HALL.out
   rw [HN.out, List.take_length] at this
   rw [this]
   rfl
/-- The contract of Valid. -/
theorem valid_c (s : SysP) (a : Option Addr) (ca : Nat) (W : World) (hs : SysM W s a ca) :
  Calls Tryz.prog 15 #[.agg #[.int .i64 s.cols, .slice a s.rows.length ca]] W fun e w' => e = .returned (.bool (validS s)) ∧ Below W.heap.size W w' := by
 by_cases h : 0 ≤ s.cols ∧ s.cols ≤ 64 ∧ s.rows.length ≤ 18
 ·have e : validS s = s.rows.all (rowOk s.cols) := by unfold validS; simp [h.1, h.2.1, h.2.2]
  rw [e]; exact valid_yes s a ca W hs h
 ·have e : validS s = false := by
   unfold validS
   cases h1 : decide (0 ≤ s.cols) with
   | false => rfl
   | true =>
    cases h2 : decide (s.cols ≤ 64) with
    | false => rfl
    | true =>
     have : ¬ s.rows.length ≤ 18 := fun h3 => h ⟨of_decide_eq_true h1, of_decide_eq_true h2, h3⟩
     simp [this]
  rw [e]; exact valid_no s a ca W h
end Go.Proofs.YtofmjkgaaphnkaaGreatDoor
/- LinPick: The contracts of pick, twice, and of at. -/
namespace Go.Proofs.YtofmjkgaaphnkaaGreatDoor
open Go.RowKit Putlog

set_option maxRecDepth 100000 in
set_option maxHeartbeats 2000000 in
theorem pick_any (c n : Int) (h0 : -9223372036854775808 ≤ c) (h1 : c ≤ 9223372036854775807) (hn : 0 < n) (hn2 : n ≤ 9223372036854775807) (W : World) :
  Calls Tryz.prog 24 #[.int .i64 c, .int .i64 n] W fun e w' => e = .returned (.int .i64 (pkN c n)) ∧ W = w' := by
 unfold pkN
 by_cases h : c < 0
 ·rw [if_pos h]
  obtain ⟨d, rfl⟩ : ∃ d, c = -d - 1 := ⟨-c - 1, by omega⟩
  have e1 : -(-d - 1 + 1) = d := by omega
  rw [e1]
  have e2 : IntKind.i64.wrap (-d - 1 + 1) = -d := by rw [IntKind.wrap_i64]; omega
  have e3 : wrap64 d = d := by unfold wrap64; omega
  have e4 : d.tmod n = d % n := Int.tmod_eq_emod_of_nonneg (by omega)
  have e5 : IntKind.i64.wrap (d % n) = d % n := by
   have := Int.emod_nonneg d (show n ≠ 0 by omega); have := Int.emod_lt_of_pos d hn
   rw [IntKind.wrap_i64]; omega
  obtain ⟨c2, hc2⟩ : ∃ c2, c2 = -d - 1 := ⟨_, rfl⟩
  rw [← hc2] at h e2 ⊢
  obtain ⟨r, hr⟩ : ∃ r, r = d % n := ⟨_, rfl⟩
  rw [← hr] at e4 e5 ⊢
  clear h0 h1 e1 hc2 hr
  go_enter Tryz.func24, Tryz.ntmps24
  go_wp2_with fail
  go_ret
  exact ⟨rfl, rfl⟩
 ·rw [if_neg h]
  have h2 : 0 ≤ c := by omega
  have e4 : c.tmod n = c % n := Int.tmod_eq_emod_of_nonneg h2
  obtain ⟨r, hr⟩ : ∃ r, r = c % n := ⟨_, rfl⟩
  rw [← hr] at e4 ⊢
  clear h0 h1 h hr
  go_enter Tryz.func24, Tryz.ntmps24
  go_wp2_with fail
  go_ret
  exact ⟨rfl, rfl⟩
set_option maxRecDepth 100000 in
set_option maxHeartbeats 2000000 in
theorem rpick_any (c n : Int) (h0 : -9223372036854775808 ≤ c) (h1 : c ≤ 9223372036854775807) (hn : 0 < n) (hn2 : n ≤ 9223372036854775807) (W : World) :
  Calls Tryz.prog 35 #[.int .i64 c, .int .i64 n] W fun e w' => e = .returned (.int .i64 (pkN c n)) ∧ W = w' := by
 unfold pkN
 by_cases h : c < 0
 ·rw [if_pos h]
  obtain ⟨d, rfl⟩ : ∃ d, c = -d - 1 := ⟨-c - 1, by omega⟩
  have e1 : -(-d - 1 + 1) = d := by omega
  rw [e1]
  have e2 : IntKind.i64.wrap (-d - 1 + 1) = -d := by rw [IntKind.wrap_i64]; omega
  have e3 : wrap64 d = d := by unfold wrap64; omega
  have e4 : d.tmod n = d % n := Int.tmod_eq_emod_of_nonneg (by omega)
  have e5 : IntKind.i64.wrap (d % n) = d % n := by
   have := Int.emod_nonneg d (show n ≠ 0 by omega); have := Int.emod_lt_of_pos d hn
   rw [IntKind.wrap_i64]; omega
  obtain ⟨c2, hc2⟩ : ∃ c2, c2 = -d - 1 := ⟨_, rfl⟩
  rw [← hc2] at h e2 ⊢
  obtain ⟨r, hr⟩ : ∃ r, r = d % n := ⟨_, rfl⟩
  rw [← hr] at e4 e5 ⊢
  clear h0 h1 e1 hc2 hr
  go_enter Tryz.func35, Tryz.ntmps35
  go_wp2_with fail
  go_ret
  exact ⟨rfl, rfl⟩
 ·rw [if_neg h]
  have h2 : 0 ≤ c := by omega
  have e4 : c.tmod n = c % n := Int.tmod_eq_emod_of_nonneg h2
  obtain ⟨r, hr⟩ : ∃ r, r = c % n := ⟨_, rfl⟩
  rw [← hr] at e4 ⊢
  clear h0 h1 h hr
  go_enter Tryz.func35, Tryz.ntmps35
  go_wp2_with fail
  go_ret
  exact ⟨rfl, rfl⟩
theorem atL_nil (i : Nat) : atL [] i = 0 := by simp [atL]
set_option maxRecDepth 100000 in
set_option maxHeartbeats 2000000 in
theorem rat_any (l : List Int) (a : Option Addr) (c i : Nat) (W : World) (hl : IntsFrom W a l) (hc : l.length ≤ c) (hc2 : (c : Int) ≤ 9223372036854775807) (hi : (i : Int) ≤ 1000000) :
  Calls Tryz.prog 36 #[.slice a l.length c, .int .i64 i] W fun e w' => e = .returned (.int .i64 (atL l i)) ∧ W = w' := by
 rcases Nat.eq_zero_or_pos l.length with h0 | h0
 ·have e : l = [] := List.eq_nil_of_length_eq_zero h0
  subst e
  rw [atL_nil]
  clear hl hc h0
  show Calls _ _ #[.slice a 0 c, .int .i64 i] W _
  go_enter Tryz.func36, Tryz.ntmps36
  go_wp2_with fail
  go_ret
  exact ⟨rfl, rfl⟩
 ·have hm : i % l.length < l.length := Nat.mod_lt _ h0
  have hcell : ∃ g o, a = some ⟨g, o, none⟩ ∧ W.cell? ⟨g, o + i % l.length, none⟩ = some (.int .i64 (atL l i)) := by
   rcases hl with h | ⟨g, o, h1, h2⟩
   ·rw [h] at h0; simp at h0
   ·exact ⟨g, o, h1, h2 _ hm⟩
  obtain ⟨g, o, rfl, c0⟩ := hcell
  obtain ⟨n, hn⟩ : ∃ n, n = l.length := ⟨_, rfl⟩
  obtain ⟨j, hj⟩ : ∃ j, j = i % l.length := ⟨_, rfl⟩
  rw [← hj] at c0 hm
  rw [← hn] at hc h0 hm ⊢
  have e4 : (i : Int).tmod (n : Int) = (j : Nat) := by rw [Int.tmod_eq_emod_of_nonneg (by omega), hj, ← hn]; omega
  have hn1 : (n : Int) ≤ c := by omega
  have h0' : (0 : Int) < n := by omega
  have hm' : (j : Int) < n := by omega
  have hne : ((n : Int) == 0) = false := by rw [beq_eq_false_iff_ne]; omega
  clear hl hc hj hn
  generalize atL l i = v at *
  go_enter Tryz.func36, Tryz.ntmps36
  go_wp2_with fail
  go_ret
  exact ⟨rfl, rfl⟩
end Go.Proofs.YtofmjkgaaphnkaaGreatDoor
/- RegionK: A region that draws its order and ends in a store over what it has loaded: a load may be taken first if what it reads stands until the store, which waits for it. Of no program. -/
namespace Putlog
open Go

section
variable {P : Program} {ops : Array Oper} {Q : Exit → Act → World → Prop} {md : Region.Mode} {S : World → Prop} {k : Nat}

/-- Whatever order is picked: S holds behind each operation as long as number k has not come up. -/
def wpK (P : Program) (md : Region.Mode) (ops : Array Oper) (Q : Exit → Act → World → Prop) (S : World → Prop) (k : Nat) : Nat → Array Bool → Act → World → Prop
 | 0, listed, a, w => Region.ready md ops listed = [] ∧ Q .normal a w
 | fuel + 1, listed, a, w =>
  (Region.ready md ops listed = [] → Q .normal a w) ∧
  ∀ i ∈ Region.ready md ops listed, wpOp P ops Q i (fun a' w' => ((listed.setIfInBounds i true).getD k true = false → S w') ∧ wpK P md ops Q S k fuel (listed.setIfInBounds i true) a' w') a w
theorem wpAny_of_K : ∀ (fuel : Nat) (listed : Array Bool) (a : Act) (w : World), wpK P md ops Q S k fuel listed a w → wpAny P md ops Q fuel listed a w
 | 0, _, _, _, h => h
 | fuel + 1, _, _, _, h => ⟨h.1, fun i hi => wpOp_mono (fun a' w' h' => wpAny_of_K fuel _ a' w' h'.2) (h.2 i hi)⟩
theorem wpK_first {i : Nat} {oi ok : Oper} {v : Value} (hi : ops[i]? = some oi) (hk : ops[k]? = some ok) (hki : ∃ e ∈ ok.after, Region.binds md e = true ∧ e.on = i)
  (hsel : ∀ (j : Nat) (o : Oper) cs b, ops[j]? = some o → o.op ≠ .select cs b) (hQ : ∀ c a w, Q (.panic c) (a.put oi.dst v) w → Q (.panic c) a w) :
  ∀ (fuel : Nat) (listed : Array Bool) (a : Act) (w : World),
   (∀ j oj, ops[j]? = some oj → j ≠ i → listed.getD j true = false → (∀ e ∈ oj.after, Region.binds md e = true → e.on ≠ i) → oi.apart ops oj = true) →
   i ∈ Region.ready md ops listed → listed.getD k true = false → YieldsIf P ops S oi v a → S w →
   wpK P md ops Q S k fuel (listed.setIfInBounds i true) (a.put oi.dst v) w → wpK P md ops Q S k (fuel + 1) listed a w := by
 intro fuel
 induction fuel with
 | zero =>
  intro listed a w _ hr _ hy hS H
  refine ⟨fun h => (by rw [h] at hr; cases hr), fun j hj => ?_⟩
  by_cases hji : j = i
  ·subst hji; exact hy.wpOp hi hS ⟨fun _ => hS, H⟩
  ·have h := ready_mono hj hji
   rw [H.1] at h
   cases h
 | succ fuel ih =>
  intro listed a w hfree hr hkl hy hS H
  refine ⟨fun h => (by rw [h] at hr; cases hr), fun j hj => ?_⟩
  by_cases hji : j = i
  ·subst hji; exact hy.wpOp hi hS ⟨fun _ => hS, H⟩
  ·have hun := (mem_ready.1 hr).1
   obtain ⟨hjun, oj, hoj, hall⟩ := mem_ready.1 hj
   have hnot : ∀ e ∈ oj.after, Region.binds md e = true → e.on ≠ i := fun e he hb heq => by
    have h1 := hall e he hb
    rw [heq] at h1
    rcases Nat.lt_or_ge i listed.size with h' | h'
    ·simp [h'] at hun h1; rw [hun] at h1; cases h1
    ·simp [Array.getElem?_eq_none h'] at h1
   have hjk : j ≠ k := fun e => by
    subst e
    obtain ⟨x, hx, hb, hxi⟩ := hki
    rw [hk] at hoj
    cases hoj
    exact hnot x hx hb hxi
   have h2 := wpOp_putIf hoj (hfree j oj hoj hji hjun hnot) (fun cs b => hsel i oi cs b hi) (fun cs b => hsel j oj cs b hoj) hQ hy (H.2 j (ready_mono hj hji))
   have hfree' : ∀ m om, ops[m]? = some om → m ≠ i → (listed.setIfInBounds j true).getD m true = false →
     (∀ e ∈ om.after, Region.binds md e = true → e.on ≠ i) → oi.apart ops om = true := fun m om hm hmi hu hno => by
    refine hfree m om hm hmi ?_ hno
    by_cases hjm : j = m
    ·subst hjm; exact hjun
    ·rw [getD_set_ne true hjm] at hu; exact hu
   have hik : i ≠ k := fun e => by
    subst e
    obtain ⟨x, hx, hb, hxi⟩ := hki
    rw [hk] at hi
    cases hi
    obtain ⟨_, o, ho, hal⟩ := mem_ready.1 hr
    rw [hk] at ho
    cases ho
    have h1 := hal x hx hb
    rw [hxi] at h1
    rcases Nat.lt_or_ge i listed.size with h' | h'
    ·simp [h'] at hun h1; rw [hun] at h1; cases h1
    ·simp [Array.getElem?_eq_none h'] at h1
   have hkl2 : (listed.setIfInBounds j true).getD k true = false := by rw [getD_set_ne true hjk]; exact hkl
   have hkl3 : ((listed.setIfInBounds i true).setIfInBounds j true).getD k true = false := by rw [getD_set_ne true hjk, getD_set_ne true hik]; exact hkl
   refine wpOp_mono (fun a' w' h3 => ⟨fun _ => h3.2.1 hkl3, ih (listed.setIfInBounds j true) a' w' hfree' (ready_mono hr (Ne.symm hji)) hkl2 h3.1 (h3.2.1 hkl3) ?_⟩) h2
   rw [Array.setIfInBounds_comm _ _ hji]
   exact h3.2.2
/-- The beginning. -/
theorem wp_region_K {id : Nat} {a : Act} {w : World} (S : World → Prop) (k : Nat) (hm : P.follows .mixedOrders = true)
  (h : wpK P .any ops Q S k ops.size (Array.replicate ops.size false) a w.drew) : (Code.region id ops true).wp P Q a w :=
 wp_region_any hm (wpAny_of_K _ _ _ _ h)
/-- Take number i first. -/
theorem wpK_take {i : Nat} {oi ok : Oper} {v : Value} {d : Option Tmp} {fuel : Nat} {listed : Array Bool} {a : Act} {w : World} (hi : ops[i]? = some oi) (hk : ops[k]? = some ok)
  (hki : (ok.after.any fun e => Region.binds md e && e.on == i) = true) (hs : Region.noSelect ops = true) (hf : Region.free md ops listed i = true) (hr : (Region.ready md ops listed).contains i = true)
  (hkl : listed.getD k true = false) (hd : oi.dst = d) (hQ : ∀ c a w, Q (.panic c) (a.put d v) w → Q (.panic c) a w) (hy : YieldsIf P ops S oi v a) (hS : S w)
  (h : wpK P md ops Q S k fuel (listed.setIfInBounds i true) (a.put d v) w) : wpK P md ops Q S k (fuel + 1) listed a w := by
 subst hd
 exact wpK_first hi hk (by
  rw [Array.any_eq_true] at hki
  obtain ⟨x, hx, h⟩ := hki
  simp only [Bool.and_eq_true, beq_iff_eq] at h
  exact ⟨ok.after[x], Array.getElem_mem hx, h.1, h.2⟩) (Region.noSelect_spec hs) hQ fuel listed a w (Region.free_spec hi hf) (by simpa using hr) hkl hy hS h
/-- Take first what yields in whatever world. -/
theorem wpK_firstP {i : Nat} {oi : Oper} {v : Value} (hi : ops[i]? = some oi) (hik : i ≠ k)
  (hsel : ∀ (j : Nat) (o : Oper) cs b, ops[j]? = some o → o.op ≠ .select cs b) (hQ : ∀ c a w, Q (.panic c) (a.put oi.dst v) w → Q (.panic c) a w) :
  ∀ (fuel : Nat) (listed : Array Bool) (a : Act) (w : World),
   (∀ j oj, ops[j]? = some oj → j ≠ i → listed.getD j true = false → (∀ e ∈ oj.after, Region.binds md e = true → e.on ≠ i) → oi.apart ops oj = true) →
   i ∈ Region.ready md ops listed → YieldsIf P ops (fun _ => True) oi v a → (listed.getD k true = false → S w) →
   wpK P md ops Q S k fuel (listed.setIfInBounds i true) (a.put oi.dst v) w → wpK P md ops Q S k (fuel + 1) listed a w := by
 intro fuel
 induction fuel with
 | zero =>
  intro listed a w _ hr hy hS H
  refine ⟨fun h => (by rw [h] at hr; cases hr), fun j hj => ?_⟩
  by_cases hji : j = i
  ·subst hji; exact hy.wpOp hi trivial ⟨fun h => hS (by rw [getD_set_ne true hik] at h; exact h), H⟩
  ·have h := ready_mono hj hji
   rw [H.1] at h
   cases h
 | succ fuel ih =>
  intro listed a w hfree hr hy hS H
  refine ⟨fun h => (by rw [h] at hr; cases hr), fun j hj => ?_⟩
  by_cases hji : j = i
  ·subst hji; exact hy.wpOp hi trivial ⟨fun h => hS (by rw [getD_set_ne true hik] at h; exact h), H⟩
  ·have hun := (mem_ready.1 hr).1
   obtain ⟨hjun, oj, hoj, hall⟩ := mem_ready.1 hj
   have hnot : ∀ e ∈ oj.after, Region.binds md e = true → e.on ≠ i := fun e he hb heq => by
    have h1 := hall e he hb
    rw [heq] at h1
    rcases Nat.lt_or_ge i listed.size with h' | h'
    ·simp [h'] at hun h1; rw [hun] at h1; cases h1
    ·simp [Array.getElem?_eq_none h'] at h1
   have h2 := wpOp_putIf hoj (hfree j oj hoj hji hjun hnot) (fun cs b => hsel i oi cs b hi) (fun cs b => hsel j oj cs b hoj) hQ hy (H.2 j (ready_mono hj hji))
   have hfree' : ∀ m om, ops[m]? = some om → m ≠ i → (listed.setIfInBounds j true).getD m true = false →
     (∀ e ∈ om.after, Region.binds md e = true → e.on ≠ i) → oi.apart ops om = true := fun m om hm hmi hu hno => by
    refine hfree m om hm hmi ?_ hno
    by_cases hjm : j = m
    ·subst hjm; exact hjun
    ·rw [getD_set_ne true hjm] at hu; exact hu
   refine wpOp_mono (fun a' w' h3 => ?_) h2
   have e : ((listed.setIfInBounds i true).setIfInBounds j true).getD k true = (listed.setIfInBounds j true).getD k true := by
    rw [Array.setIfInBounds_comm _ _ (Ne.symm hji), getD_set_ne true hik]
   rw [e] at h3
   refine ⟨h3.2.1, ih (listed.setIfInBounds j true) a' w' hfree' (ready_mono hr (Ne.symm hji)) h3.1 h3.2.1 ?_⟩
   rw [Array.setIfInBounds_comm _ _ hji]
   exact h3.2.2
theorem wpK_takeP {i : Nat} {oi : Oper} {v : Value} {d : Option Tmp} {fuel : Nat} {listed : Array Bool} {a : Act} {w : World} (hi : ops[i]? = some oi) (hik : (i == k) = false) (hs : Region.noSelect ops = true) (hf : Region.free md ops listed i = true) (hr : (Region.ready md ops listed).contains i = true)
  (hd : oi.dst = d) (hQ : ∀ c a w, Q (.panic c) (a.put d v) w → Q (.panic c) a w) (hy : YieldsIf P ops (fun _ => True) oi v a) (hS : listed.getD k true = false → S w)
  (h : wpK P md ops Q S k fuel (listed.setIfInBounds i true) (a.put d v) w) : wpK P md ops Q S k (fuel + 1) listed a w := by
 subst hd
 exact wpK_firstP hi (by simpa using hik) (Region.noSelect_spec hs) hQ fuel listed a w (Region.free_spec hi hf) (by simpa using hr) hy hS h
/-- One operation alone may come up. -/
theorem wpK_one {i : Nat} {oi : Oper} {fuel : Nat} {listed : Array Bool} {a : Act} {w : World} (hr : Region.ready md ops listed = [i]) (hi : ops[i]? = some oi) (hg : oi.guard = none)
  (h : oi.wp P a w (fun a' w' => ((listed.setIfInBounds i true).getD k true = false → S w') ∧ wpK P md ops Q S k fuel (listed.setIfInBounds i true) a' w') Q) : wpK P md ops Q S k (fuel + 1) listed a w := by
 refine ⟨fun h0 => (by rw [hr] at h0; cases h0), fun j hj => ?_⟩
 rw [hr] at hj
 obtain rfl : j = i := by simpa using hj
 unfold wpOp
 simp only [hi]
 rw [if_pos (by simp [Region.wanted, hg])]
 exact .inl h
/-- The store at the end, of a whole array. -/
theorem wpK_store {i : Nat} {oi : Oper} {fuel : Nat} {listed : Array Bool} {a : Act} {w : World} (hr : Region.ready md ops listed = [i]) (hi : ops[i]? = some oi) (hg : oi.guard = none) (hd : oi.dst = none)
  (hn : Region.ready md ops (listed.setIfInBounds i true) = []) (hk : (listed.setIfInBounds i true).getD k true = true) (ty : TypeId) (x y : Operand) (ho : oi.op = .store ty x y)
  (b o : Nat) (cells : List Value) (hx : a.eval x = .pointer (some ⟨b, o, none⟩)) (hy : a.eval y = .agg cells.toArray)
  (ht : w.there b o cells.length) (hsz : (P.info? ty).map (·.size) = some cells.length) (h1 : ∀ v ∈ cells, v.oneCell' = true)
  (h : Q .normal a (w.setCells b o cells)) : wpK P md ops Q S k (fuel + 1) listed a w := by
 refine wpK_one hr hi hg ?_
 refine wp_store_mid ty x y ho b o cells.toArray hx hy (by simpa using ht) (by simpa using hsz) (by simpa using h1) ?_
 refine ⟨(fun h => by rw [hk] at h; cases h), ?_⟩
 have e : a.put oi.dst undef = a := by rw [hd]; rfl
 rw [e]
 cases fuel with
 | zero => exact ⟨hn, h⟩
 | succ _ => exact ⟨fun _ => h, by rw [hn]; simp⟩
/-- A value of whatever cells is stored. -/
theorem run_storeVar_v (w : World) (b o : Nat) (ty : TypeId) (v : Value) (cells : List Value) (hv : v.cells = cells.toArray) (ht : w.there b o cells.length) (hi : (P.info? ty).map (·.size) = some cells.length) (h1 : ∀ u ∈ cells, u.oneCell' = true) :
  (storeVar ty ⟨b, o, none⟩ v).run P w = .ok () (w.setCells b o cells) := by
 have := run_storeCells_cells (P := P) b o cells 0 w (fun j hj => by simpa using (ht j hj).1) (fun j hj => by simpa using (ht j hj).2) h1
 cases hq : P.info? ty with
 | none => simp [hq] at hi
 | some i =>
  have hs : cells.length = i.size := by simp [hq] at hi; omega
  simp only [Nat.add_zero] at this
  simp [storeVar, Go.sizeOf, typeInfo, hq, hv, hs, this]
/-- The store at the end, of a value in one cell. -/
theorem wpK_store1 {i : Nat} {oi : Oper} {fuel : Nat} {listed : Array Bool} {a : Act} {w : World} (hr : Region.ready md ops listed = [i]) (hi : ops[i]? = some oi) (hg : oi.guard = none) (hd : oi.dst = none)
  (hn : Region.ready md ops (listed.setIfInBounds i true) = []) (hk : (listed.setIfInBounds i true).getD k true = true) (ty : TypeId) (x y : Operand) (ho : oi.op = .store ty x y)
  (b o : Nat) (v : Value) (hx : a.eval x = .pointer (some ⟨b, o, none⟩)) (hy : a.eval y = v) (hv : v.cells = #[v])
  (hc : (w.cell? ⟨b, o, none⟩).isSome = true) (hf : w.frozen? ⟨b, o, none⟩ = false) (hsz : (P.info? ty).map (·.size) = some 1) (h1 : v.oneCell' = true)
  (h : Q .normal a (w.setCell ⟨b, o, none⟩ v)) : wpK P md ops Q S k (fuel + 1) listed a w := by
 refine wpK_one hr hi hg ?_
 unfold Oper.wp execOp
 simp only [ho, hx, hy, Instr.storeAt, Instr.sureAddr, Sem.run_bind, Sem.run_pure, Result.andThen_ok, run_storeVar_v w b o ty v [v] hv (fun j hj => by
  obtain rfl : j = 0 := by simpa using hj
  exact ⟨hc, hf⟩) hsz (by simpa using h1)]
 refine ⟨(fun h => by rw [hk] at h; cases h), ?_⟩
 have e : a.put oi.dst undef = a := by rw [hd]; rfl
 rw [e]
 cases fuel with
 | zero => exact ⟨hn, h⟩
 | succ _ => exact ⟨fun _ => h, by rw [hn]; simp⟩
/-- An append on the way. -/
theorem wpK_append {i : Nat} {oi : Oper} {fuel : Nat} {listed : Array Bool} {a : Act} {w : World} {dt : Tmp} (hr : Region.ready md ops listed = [i]) (hi : ops[i]? = some oi) (hg : oi.guard = none) (hd : oi.dst = some dt)
  (s x : Operand) (t : TypeId) (ho : oi.op = .call { callee := .builtin .append, args := #[s, x], argTypes := #[t, t] })
  (base : Nat) (e : TypeId) (ti : TypeInfo) (z : Value) (size bytes : Nat) (ht : P.underlying t = some (.slice e)) (hti : P.info? e = some ti) (hz : ti.zero = some z)
  (hsize : ti.size = size) (hby : ti.bytes = bytes) (hzs : z.cells.size = size) (hsz : 0 < size)
  (v : Value) (n : Nat) (xs : List Value) (hs : a.eval s = v) (hown : w.ownsRow base e size v n xs)
  (ad : Addr) (m c : Nat) (news : List Value) (hx : a.eval x = .slice (some ad) m c) (hl : news.length = m * size) (hnews : ∀ j u, news[j]? = some u → w.cell? (ad.add j) = some u) (h1 : ∀ u ∈ news, u.oneCell' = true)
  (hm : 0 < m) (h63 : n + m ≤ maxLen) (hbytes : (n + m) * bytes ≤ 140737488355328) (hbase : base ≤ w.heap.size)
  (h : ∀ g cap w', w'.ownsRow base e size (.slice (some ⟨g, 0, none⟩) (n + m) cap) (n + m) (xs ++ news) → w.grownBy w' v.ownBlock → (v.ownBlock = some g ∨ g = w.heap.size) → g < w'.heap.size →
   ((listed.setIfInBounds i true).getD k true = false → S w') ∧ wpK P md ops Q S k fuel (listed.setIfInBounds i true) (a.put (some dt) (.slice (some ⟨g, 0, none⟩) (n + m) cap)) w') : wpK P md ops Q S k (fuel + 1) listed a w :=
 wpK_one hr hi hg (wp_append_lies w s x t ho base e ti z size bytes ht hti hz hsize hby hzs hsz v n xs hs hown ad m c news hx hl hnews h1 hm h63 hbytes hbase _ rfl (fun g cap w' h2 h3 h4 h5 => by rw [hd]; exact h g cap w' h2 h3 h4 h5))
/-- A step by a law for regions. -/
theorem wpK_step {i : Nat} {oi : Oper} {fuel : Nat} {listed : Array Bool} {a : Act} {w : World} (hr : Region.ready md ops listed = [i]) (hi : ops[i]? = some oi) (hg : oi.guard = none)
  (h : if Region.wanted oi (yielded ops a.tmps) = true then Oper.wp P oi a w (fun a' w' => ((listed.setIfInBounds i true).getD k true = false → S w') ∧ wpK P md ops Q S k fuel (listed.setIfInBounds i true) a' w') Q else False) : wpK P md ops Q S k (fuel + 1) listed a w := by
 rw [if_pos (by simp [Region.wanted, hg])] at h
 exact wpK_one hr hi hg h
/-- Two operations may come up. -/
theorem wpK_two {i j : Nat} {fuel : Nat} {listed : Array Bool} {a : Act} {w : World} (hr : Region.ready md ops listed = [i, j])
  (h1 : wpOp P ops Q i (fun a' w' => ((listed.setIfInBounds i true).getD k true = false → S w') ∧ wpK P md ops Q S k fuel (listed.setIfInBounds i true) a' w') a w)
  (h2 : wpOp P ops Q j (fun a' w' => ((listed.setIfInBounds j true).getD k true = false → S w') ∧ wpK P md ops Q S k fuel (listed.setIfInBounds j true) a' w') a w) : wpK P md ops Q S k (fuel + 1) listed a w := by
 refine ⟨fun h0 => (by rw [hr] at h0; cases h0), fun q hq => ?_⟩
 rw [hr] at hq
 rcases List.mem_cons.1 hq with rfl | hq
 ·exact h1
 ·obtain rfl : q = j := by simpa using hq
  exact h2
theorem wpOp_one {i : Nat} {oi : Oper} {K : Act → World → Prop} {a : Act} {w : World} (hi : ops[i]? = some oi) (hg : oi.guard = none) (h : oi.wp P a w K Q) : wpOp P ops Q i K a w := by
 unfold wpOp
 simp only [hi]
 rw [if_pos (by simp [Region.wanted, hg])]
 exact .inl h
/-- An append among two. -/
theorem wpOp_append {i : Nat} {oi : Oper} {K : Act → World → Prop} {a : Act} {w : World} {dt : Tmp} (hi : ops[i]? = some oi) (hg : oi.guard = none) (hd : oi.dst = some dt)
  (s x : Operand) (t : TypeId) (ho : oi.op = .call { callee := .builtin .append, args := #[s, x], argTypes := #[t, t] })
  (base : Nat) (e : TypeId) (ti : TypeInfo) (z : Value) (size bytes : Nat) (ht : P.underlying t = some (.slice e)) (hti : P.info? e = some ti) (hz : ti.zero = some z)
  (hsize : ti.size = size) (hby : ti.bytes = bytes) (hzs : z.cells.size = size) (hsz : 0 < size)
  (v : Value) (n : Nat) (xs : List Value) (hs : a.eval s = v) (hown : w.ownsRow base e size v n xs)
  (ad : Addr) (m c : Nat) (news : List Value) (hx : a.eval x = .slice (some ad) m c) (hl : news.length = m * size) (hnews : ∀ j u, news[j]? = some u → w.cell? (ad.add j) = some u) (h1 : ∀ u ∈ news, u.oneCell' = true)
  (hm : 0 < m) (h63 : n + m ≤ maxLen) (hbytes : (n + m) * bytes ≤ 140737488355328) (hbase : base ≤ w.heap.size)
  (h : ∀ g cap w', w'.ownsRow base e size (.slice (some ⟨g, 0, none⟩) (n + m) cap) (n + m) (xs ++ news) → w.grownBy w' v.ownBlock → (v.ownBlock = some g ∨ g = w.heap.size) → g < w'.heap.size →
   K (a.put (some dt) (.slice (some ⟨g, 0, none⟩) (n + m) cap)) w') : wpOp P ops Q i K a w :=
 wpOp_one hi hg (wp_append_lies w s x t ho base e ti z size bytes ht hti hz hsize hby hzs hsz v n xs hs hown ad m c news hx hl hnews h1 hm h63 hbytes hbase _ rfl (fun g cap w' h2 h3 h4 h5 => by rw [hd]; exact h g cap w' h2 h3 h4 h5))
/-- A store of a value in one cell, on the way. -/
theorem wpK_set {i : Nat} {oi : Oper} {fuel : Nat} {listed : Array Bool} {a : Act} {w : World} (hr : Region.ready md ops listed = [i]) (hi : ops[i]? = some oi) (hg : oi.guard = none) (hd : oi.dst = none)
  (ty : TypeId) (x y : Operand) (ho : oi.op = .store ty x y)
  (b o : Nat) (v : Value) (hx : a.eval x = .pointer (some ⟨b, o, none⟩)) (hy : a.eval y = v) (hv : v.cells = #[v])
  (hc : (w.cell? ⟨b, o, none⟩).isSome = true) (hf : w.frozen? ⟨b, o, none⟩ = false) (hsz : (P.info? ty).map (·.size) = some 1) (h1 : v.oneCell' = true)
  (h : ((listed.setIfInBounds i true).getD k true = false → S (w.setCell ⟨b, o, none⟩ v)) ∧ wpK P md ops Q S k fuel (listed.setIfInBounds i true) a (w.setCell ⟨b, o, none⟩ v)) : wpK P md ops Q S k (fuel + 1) listed a w := by
 refine wpK_one hr hi hg ?_
 unfold Oper.wp execOp
 simp only [ho, hx, hy, Instr.storeAt, Instr.sureAddr, Sem.run_bind, Sem.run_pure, Result.andThen_ok, run_storeVar_v w b o ty v [v] hv (fun j hj => by
  obtain rfl : j = 0 := by simpa using hj
  exact ⟨hc, hf⟩) hsz (by simpa using h1)]
 have e : a.put oi.dst undef = a := by rw [hd]; rfl
 show _ ∧ wpK P md ops Q S k fuel _ (a.put oi.dst undef) _
 rw [e]
 exact h
/-- A store of an array, on the way. -/
theorem wpK_setN {i : Nat} {oi : Oper} {fuel : Nat} {listed : Array Bool} {a : Act} {w : World} (hr : Region.ready md ops listed = [i]) (hi : ops[i]? = some oi) (hg : oi.guard = none) (hd : oi.dst = none)
  (ty : TypeId) (x y : Operand) (ho : oi.op = .store ty x y)
  (b o : Nat) (cells : List Value) (hx : a.eval x = .pointer (some ⟨b, o, none⟩)) (hy : a.eval y = .agg cells.toArray)
  (ht : w.there b o cells.length) (hsz : (P.info? ty).map (·.size) = some cells.length) (h1 : ∀ v ∈ cells, v.oneCell' = true)
  (h : ((listed.setIfInBounds i true).getD k true = false → S (w.setCells b o cells)) ∧ wpK P md ops Q S k fuel (listed.setIfInBounds i true) a (w.setCells b o cells)) : wpK P md ops Q S k (fuel + 1) listed a w := by
 refine wpK_one hr hi hg ?_
 refine wp_store_mid ty x y ho b o cells.toArray hx hy (by simpa using ht) (by simpa using hsz) (by simpa using h1) ?_
 have e : a.put oi.dst undef = a := by rw [hd]; rfl
 show _ ∧ wpK P md ops Q S k fuel _ (a.put oi.dst undef) _
 rw [e]
 exact h
/-- One operation alone may come up, and it yields a value. -/
theorem wpK_oneY {i : Nat} {oi : Oper} {fuel : Nat} {listed : Array Bool} {a : Act} {w : World} {v : Value} {d : Option Tmp} (hr : Region.ready md ops listed = [i]) (hi : ops[i]? = some oi) (hd : oi.dst = d)
  (hy : YieldsIf P ops S oi v a) (hS : S w) (h : wpK P md ops Q S k fuel (listed.setIfInBounds i true) (a.put d v) w) : wpK P md ops Q S k (fuel + 1) listed a w := by
 subst hd
 refine ⟨fun h0 => (by rw [hr] at h0; cases h0), fun j hj => ?_⟩
 rw [hr] at hj
 obtain rfl : j = i := by simpa using hj
 exact hy.wpOp hi hS ⟨fun _ => hS, h⟩
/-- The last operation yields a value. -/
theorem wpK_lastY {i : Nat} {oi : Oper} {fuel : Nat} {listed : Array Bool} {a : Act} {w : World} {v : Value} {d : Option Tmp} (hr : Region.ready md ops listed = [i]) (hi : ops[i]? = some oi) (hd : oi.dst = d)
  (hn : Region.ready md ops (listed.setIfInBounds i true) = []) (hk : (listed.setIfInBounds i true).getD k true = true) (hy : YieldsIf P ops S oi v a) (hS : S w)
  (h : Q .normal (a.put d v) w) : wpK P md ops Q S k (fuel + 1) listed a w := by
 subst hd
 refine ⟨fun h0 => (by rw [hr] at h0; cases h0), fun j hj => ?_⟩
 rw [hr] at hj
 obtain rfl : j = i := by simpa using hj
 refine hy.wpOp hi hS ⟨(fun h => by rw [hk] at h; cases h), ?_⟩
 cases fuel with
 | zero => exact ⟨hn, h⟩
 | succ _ => exact ⟨fun _ => h, by rw [hn]; simp⟩
theorem wpK_done {listed : Array Bool} {a : Act} {w : World} (hr : Region.ready md ops listed = []) (h : Q .normal a w) : ∀ fuel, wpK P md ops Q S k fuel listed a w
 | 0 => ⟨hr, h⟩
 | _ + 1 => ⟨fun _ => h, by rw [hr]; simp⟩
end
end Putlog
/- RegionT: wpK_take with premises that prove themselves. Of no program. -/
namespace Putlog
open Go
theorem wpK_tk {P : Program} {ops : Array Oper} {Q : Exit → Act → World → Prop} {md : Region.Mode} {S : World → Prop} {k i : Nat} {oi ok : Oper} {v : Value} {d : Option Tmp} {fuel : Nat} {listed : Array Bool} {a : Act} {w : World} (hi : ops[i]? = some oi) (hk : ops[k]? = some ok) (hy : YieldsIf P ops S oi v a) (hS : S w)
    (h : wpK P md ops Q S k fuel (listed.setIfInBounds i true) (a.put d v) w)
    (hki : (ok.after.any fun e => Region.binds md e && e.on == i) = true := by kernel_rfl) (hs : Region.noSelect ops = true := by kernel_rfl) (hf : Region.free md ops listed i = true := by kernel_rfl) (hr : (Region.ready md ops listed).contains i = true := by kernel_rfl)
    (hkl : listed.getD k true = false := by kernel_rfl) (hd : oi.dst = d := by exact rfl) (hQ : ∀ c a w, Q (.panic c) (a.put d v) w → Q (.panic c) a w := by exact fun _ _ _ h => h) : wpK P md ops Q S k (fuel + 1) listed a w :=
  wpK_take hi hk hki hs hf hr hkl hd hQ hy hS h
/- short names for the walk's own simp line -/
theorem tA {α : Type} (l : List α) (i : Nat) (a : α) : l.toArray.setIfInBounds i a = (l.set i a).toArray := List.setIfInBounds_toArray ..
theorem tB {α : Type} (x : α) (l : List α) (a : α) : (x :: l).set 0 a = a :: l := rfl
theorem tC {α : Type} (x : α) (l : List α) (n : Nat) (a : α) : (x :: l).set (n + 1) a = x :: l.set n a := rfl
end Putlog
/- LinCols: The contract of columns. -/
namespace Go.Proofs.YtofmjkgaaphnkaaGreatDoor
open Go.RowKit Putlog

theorem info_ex {t : TypeId} {z : Value} {sz by_ : Nat} (h : (Tryz.prog.info? t).map (fun i => (i.zero, i.size, i.bytes)) = some (some z, sz, by_)) : ∃ i, Tryz.prog.info? t = some i ∧ i.zero = some z ∧ i.size = sz ∧ i.bytes = by_ := by
 cases hi : Tryz.prog.info? t with
 | none => rw [hi] at h; cases h
 | some i =>
  rw [hi] at h
  simp only [Option.map_some, Option.some.injEq, Prod.mk.injEq] at h
  exact ⟨i, rfl, h.1, h.2.1, h.2.2⟩
theorem inf_int : (Tryz.prog.info? 3).map (fun i => (i.zero, i.size, i.bytes)) = some (some (.int .i64 0), 1, 8) := by kernel_rfl
theorem inf_ints : (Tryz.prog.info? 22).map (fun i => (i.zero, i.size, i.bytes)) = some (some (.slice none 0 0), 1, 24) := by kernel_rfl
theorem inf_str : (Tryz.prog.info? 9).map (fun i => (i.zero, i.size, i.bytes)) = some (some (.string ⟨#[]⟩), 1, 16) := by kernel_rfl
/-- A block of one-cell values. -/
def BlkB (t : TypeId) (p : Nat) (l : List Value) (w : World) : Prop := w.heap[p]? = some (.cells l.toArray t (0, 0))
theorem BlkB.via {t : TypeId} {p : Nat} {l : List Value} {w w' : World} (h : BlkB t p l w) (hB : Below w.heap.size w w') : BlkB t p l w' := heap_belowL hB h
theorem BlkB.cell {t : TypeId} {p : Nat} {l : List Value} {w : World} (h : BlkB t p l w) {i : Nat} {v : Value} (hv : l[i]? = some v) : w.cell? ⟨p, i, none⟩ = some v := by
 rw [cell_of_row w p i _ _ _ h]; simpa using hv
theorem BlkB.froz {t : TypeId} {p : Nat} {l : List Value} {w : World} (h : BlkB t p l w) (i : Nat) : w.frozen? ⟨p, i, none⟩ = false := frozen_of_row w p i _ _ h
theorem BlkB.set {t : TypeId} {p : Nat} {l : List Value} {w : World} (h : BlkB t p l w) (i : Nat) (v : Value) : BlkB t p (l.set i v) (w.setCell ⟨p, i, none⟩ v) := by
 have := heap_setCell_same w p i _ _ v h
 unfold BlkB
 rw [this, List.setIfInBounds_toArray]
theorem BlkB.lt {t : TypeId} {p : Nat} {l : List Value} {w : World} (h : BlkB t p l w) : p < w.heap.size := (Array.getElem?_eq_some_iff.1 h).1
theorem made_one (z : Value) (hz : z.cells = #[z]) (n : Nat) : (madeCells z.cells n).toList = List.replicate n z := by
 rw [hz]
 unfold madeCells
 apply List.ext_getElem?
 intro j
 by_cases h : j < n
 ·rw [List.getElem?_replicate, if_pos h]
  simp only [Array.toList_map, Array.toList_range, List.getElem?_map, List.getElem?_range h, Option.map_some]
  have e : #[z].size = 1 := rfl
  rw [e, Nat.mod_one]; rfl
 ·rw [List.getElem?_eq_none (by simp; omega), List.getElem?_eq_none (by simp; omega)]
theorem blk_made {w w1 : World} {n : Nat} {t : TypeId} {z : Value} (hz : z.cells = #[z]) (hown : w1.ownsRow w.heap.size t 1 (.slice (some ⟨w.heap.size, 0, none⟩) n n) n (madeCells z.cells (n * 1)).toList) : BlkB t w.heap.size (List.replicate n z) w1 := by
 rw [Nat.mul_one, made_one z hz] at hown
 rcases hown.2 with ⟨h, _⟩ | ⟨g, cap, cur, h1, _, h3, _, _, h6, h7⟩
 ·cases h
 ·cases h1
  unfold BlkB
  rw [h3, ← h7, List.take_of_length_le (by rw [Array.length_toList, h6]; exact Nat.le_refl _)]
/-- Whatever stood is as it was, but for one block. -/
structure Frm (g : Nat) (w w' : World) : Prop where
 size : w.heap.size ≤ w'.heap.size
 same : ∀ p, p < w.heap.size → p ≠ g → w'.heap[p]? = w.heap[p]?
theorem Frm.refl (g : Nat) (w : World) : Frm g w w := ⟨Nat.le_refl _, fun _ _ _ => rfl⟩
theorem Frm.below {g : Nat} {w w1 w2 : World} (h : Frm g w w1) (hB : Below w1.heap.size w1 w2) : Frm g w w2 :=
 ⟨Nat.le_trans h.size hB.size, fun p hp hg => (hB.block p (Nat.lt_of_lt_of_le hp h.size)).trans (h.same p hp hg)⟩
theorem Frm.set {g : Nat} {w w1 : World} (h : Frm g w w1) (i : Nat) (v : Value) : Frm g w (w1.setCell ⟨g, i, none⟩ v) :=
 ⟨by rw [World.size_setCell]; exact h.size, fun p hp hg => (heap_setCell_other _ _ _ _ hg).trans (h.same p hp hg)⟩
theorem Frm.cell {g : Nat} {w w1 : World} (h : Frm g w w1) {p i : Nat} {v : Value} (hc : w.cell? ⟨p, i, none⟩ = some v) (hg : p ≠ g) : w1.cell? ⟨p, i, none⟩ = some v := by
 have hp := lt_of_cell hc
 rw [← hc]; simp only [World.cell?, h.same p hp hg]
theorem Frm.grown {g : Nat} {w w1 w2 : World} {v : Option Nat} (h : Frm g w w1) (hg : w1.grownBy w2 v) (hv : ∀ k, v = some k → w.heap.size ≤ k) : Frm g w w2 := by
 have hB := (Below.refl w.heap.size w1).grown hg h.size hv
 exact ⟨Nat.le_trans h.size hB.size, fun p hp hne => (hB.block p hp).trans (h.same p hp hne)⟩
theorem IntsFrom.frm {g : Nat} {w w1 : World} {a : Option Addr} {l : List Int} (h : IntsFrom w a l) (hf : Frm g w w1) (ha : ∀ p o, a = some ⟨p, o, none⟩ → p ≠ g) : IntsFrom w1 a l := by
 rcases h with h0 | ⟨p, o, h1, h2⟩
 ·exact .inl h0
 ·exact .inr ⟨p, o, h1, fun j hj => hf.cell (h2 j hj) (ha p o h1)⟩
/-- A slice of integers that is one column. -/
def ColOK (w : World) (gl n : Nat) (v : Value) (l : List Int) : Prop := ∃ a c, v = .slice a n c ∧ n ≤ c ∧ (c : Int) ≤ 9223372036854775807 ∧ IntsFrom w a l ∧ ∀ p o, a = some ⟨p, o, none⟩ → p ≠ gl ∧ p < w.heap.size
theorem ColOK.frm {w w1 : World} {gl n : Nat} {v : Value} {l : List Int} (h : ColOK w gl n v l) (hf : Frm gl w w1) : ColOK w1 gl n v l := by
 obtain ⟨a, c, h1, h2, h3, h4, h5⟩ := h
 exact ⟨a, c, h1, h2, h3, h4.frm hf (fun p o e => (h5 p o e).1), fun p o e => ⟨(h5 p o e).1, Nat.lt_of_lt_of_le (h5 p o e).2 hf.size⟩⟩
def intsV (l : List Int) : List Value := l.map (Value.int .i64)
theorem owns_ints {w : World} {B : Nat} {t : TypeId} {v : Value} {l : List Int} {n : Nat} (hn : n = l.length) (h : w.ownsRow B t 1 v n (intsV l)) : ∃ a c, v = .slice a n c ∧ n ≤ c ∧ (c : Int) ≤ 9223372036854775807 ∧ IntsFrom w a l ∧ ∀ p o, a = some ⟨p, o, none⟩ → B ≤ p ∧ p < w.heap.size := by
 subst hn
 obtain ⟨h0, hv | ⟨g, cap, cur, hv, hg, hh, h1, h2, h3, h4⟩⟩ := h
 ·obtain ⟨h1, h2⟩ := hv
  exact ⟨none, 0, by rw [h1, h2], by omega, by omega, .inl (List.eq_nil_of_length_eq_zero (by omega)), fun p o e => by cases e⟩
 ·refine ⟨some ⟨g, 0, none⟩, cap, hv, h1, by unfold maxLen at h2; omega, .inr ⟨g, 0, rfl, fun j hj => ?_⟩, fun p o e => by cases e; exact ⟨hg, (Array.getElem?_eq_some_iff.1 hh).1⟩⟩
  rw [Nat.zero_add, cell_of_row w g j cur _ (0, 0) hh]
  rw [Nat.mul_one] at h4
  have h5 : (cur.toList.take l.length)[j]? = (l.map (Value.int .i64))[j]? := by rw [h4]; rfl
  rw [List.getElem?_take_of_lt (by omega), Array.getElem?_toList] at h5
  rw [h5, List.getElem?_map, List.getElem?_eq_getElem hj, List.getD_eq_getElem?_getD, List.getElem?_eq_getElem hj]; rfl
theorem news_intC (W : World) (x : Int) (t : TypeId) {b : Nat} (hb : b = W.heap.size) : ∀ j u, [Value.int .i64 x][j]? = some u → (W.alloc (.cells #[.int .i64 x] t)).cell? ((⟨b, 0, none⟩ : Addr).add j) = some u
 | 0, u, h => by
  subst hb
  simp at h; subst h
  exact (cell_of_row _ W.heap.size 0 _ t (0, 0) (heap_alloc_new W _)).trans rfl
 | j + 1, u, h => by simp at h
theorem one_intC (x : Int) : ∀ u ∈ [Value.int .i64 x], u.oneCell' = true := by intro u hu; simp at hu; subst hu; rfl
theorem own_lt {w : World} {base : Nat} {e : TypeId} {size : Nat} {v : Value} {n : Nat} {xs : List Value} (h : w.ownsRow base e size v n xs) : ∀ k, v.ownBlock = some k → base ≤ k ∧ k < w.heap.size := by
 intro k hk
 rcases h.2 with ⟨h0, _⟩ | ⟨g, cap, cur, hv, hb, hg, _⟩
 ·rw [h0] at hk; cases hk
 ·rw [hv] at hk
  cases hk
  exact ⟨hb, (Array.getElem?_eq_some_iff.1 hg).1⟩
theorem own_set {w : World} {base : Nat} {e : TypeId} {size : Nat} {v : Value} {n : Nat} {xs : List Value} (h : w.ownsRow base e size v n xs) {p i : Nat} {u : Value} (hne : ∀ k, v.ownBlock = some k → p ≠ k) : (w.setCell ⟨p, i, none⟩ u).ownsRow base e size v n xs := by
 refine ⟨h.1, ?_⟩
 rcases h.2 with h0 | ⟨g, cap, cur, hv, hb, hg, h1⟩
 ·exact .inl h0
 ·refine .inr ⟨g, cap, cur, hv, hb, ?_, h1⟩
  rw [heap_setCell_other _ _ _ _ (fun e => hne g (by rw [hv]; rfl) e.symm)]; exact hg
theorem kept_own {w w' : World} {v : Value} (hg : w.grownBy w' v.ownBlock) {p i : Nat} {u : Value} (hc : w.cell? ⟨p, i, none⟩ = some u) (hne : ∀ k, v.ownBlock = some k → p ≠ k) : w'.cell? ⟨p, i, none⟩ = some u :=
 (hg.cell_far ⟨p, i, none⟩ (lt_of_cell hc) (fun e => hne p e.symm rfl)).trans hc
theorem kept_blk {w w' : World} {v : Value} (hg : w.grownBy w' v.ownBlock) {t : TypeId} {p : Nat} {l : List Value} (hc : BlkB t p l w) (hne : ∀ k, v.ownBlock = some k → p ≠ k) : BlkB t p l w' :=
 (hg.block p hc.lt (fun e => hne p e.symm rfl)).trans hc
theorem mid_one {α : Type} (vs : List α) (v : α) (r : List α) {j : Nat} (h : vs.length = j) : (vs ++ v :: r)[j]? = some v := by subst h; simp
theorem mid_put {α : Type} (vs : List α) (v u : α) (r : List α) {j : Nat} (h : vs.length = j) : (vs ++ v :: r).set j u = vs ++ u :: r := by subst h; simp
theorem getD_one {vs : List Value} {v : Value} {q j : Nat} (h : vs.length = j) (hq : q < j) : (vs ++ [v]).getD q undef = vs.getD q undef := by
 rw [List.getD_eq_getElem?_getD, List.getD_eq_getElem?_getD, List.getElem?_append_left (by omega)]
theorem getD_last {vs : List Value} {v : Value} {j : Nat} (h : vs.length = j) : (vs ++ [v]).getD j undef = v := by
 subst h; simp
theorem colL_take {s : SysP} {j k : Nat} (h : k < s.rows.length) : (colL s j).take (k + 1) = (colL s j).take k ++ [(s.rows.getD k ([], 0)).1.getD j 0] := by
 rw [List.take_add_one]
 congr 1
 unfold colL
 rw [List.getElem?_map, List.getElem?_eq_getElem h, List.getD_eq_getElem?_getD (l := s.rows), List.getElem?_eq_getElem h]; rfl
theorem colL_len (s : SysP) (j : Nat) : (colL s j).length = s.rows.length := by unfold colL; rw [List.length_map]
set_option maxRecDepth 100000 in
set_option maxHeartbeats 4000000 in
theorem columns_c (s : SysP) (a : Option Addr) (ca : Nat) (W : World) (hs : SysM W s a ca) (hv : ValidP s) :
  Calls Tryz.prog 63 #[.agg #[.int .i64 s.cols, .slice a s.rows.length ca]] W fun e w' => (∃ gl vs, e = .returned (.slice (some ⟨gl, 0, none⟩) s.cols.toNat s.cols.toNat) ∧ W.heap.size ≤ gl ∧ vs.length = s.cols.toNat ∧ BlkB 22 gl vs w' ∧ ∀ j, j < s.cols.toNat → ColOK w' gl s.rows.length (vs.getD j undef) (colL s j)) ∧ Below W.heap.size W w' := by
 obtain ⟨n, hn⟩ : ∃ n, n = s.rows.length := ⟨_, rfl⟩
 obtain ⟨c, hc⟩ : ∃ c : Nat, (c : Int) = s.cols := ⟨s.cols.toNat, by have := hv.lo; omega⟩
 have hct : s.cols.toNat = c := by omega
 have HS := Lib.hid hs
 have HLEN := Lib.hid hv.len
 obtain ⟨i0, hi0, hz0, hz1, hz2⟩ := info_ex inf_ints
 obtain ⟨j0, hj0, hy0, hy1, hy2⟩ := info_ex inf_int
 have HI0 := Lib.hid hi0
 have HZ0 := Lib.hid hz0
 have HZ1 := Lib.hid hz1
 have HZ2 := Lib.hid hz2
 have HJ0 := Lib.hid hj0
 have HY0 := Lib.hid hy0
 have HY1 := Lib.hid hy1
 have HY2 := Lib.hid hy2
 have hc1 : (c : Int) ≤ 64 := by have := hv.hi; omega
 have hn1 : (n : Int) ≤ 18 := by have := hv.rows; omega
 have hca : (n : Int) ≤ ca := by have := hs.len; omega
 rw [← hn, ← hc, Int.toNat_natCast]
 have HN := Lib.hid hn
 have HC := Lib.hid hc
 have hb1 := alloc_belowL W (.cells #[.int .i64 c, .slice a n ca] 27)
 have g1 := heap_alloc_new W (.cells #[.int .i64 c, .slice a n ca] 27)
 have hs1 : (W.alloc (.cells #[.int .i64 c, .slice a n ca] 27)).heap.size = W.heap.size + 1 := by simp
 have HSZ := Lib.hid hs1
 have C1 := Lib.hid ((cell_of_row _ _ 1 _ _ _ g1).trans rfl : (W.alloc (.cells #[.int .i64 c, .slice a n ca] 27)).cell? ⟨W.heap.size, 1, none⟩ = some (.slice a n ca))
 have c0 : (W.alloc (.cells #[.int .i64 c, .slice a n ca] 27)).cell? ⟨W.heap.size, 0, none⟩ = some (.int .i64 c) := (cell_of_row _ _ 0 _ _ _ g1).trans rfl
 have HB := Lib.hid hb1
 clear hs hv hn hc hct hi0 hz0 hz1 hz2 hj0 hy0 hy1 hy2 hb1 g1 hs1
 go_enter Tryz.func63, Tryz.ntmps63
 go_upto_region 1 with fail
 change Code.wp _ _ _ _ (W.alloc (.cells #[.int .i64 c, .slice a n ca] 27))
 generalize W.alloc (.cells #[.int .i64 c, .slice a n ca] 27) = w0 at *
 go_wp2_with (at_make; go_must (refine wpList_make_full _ rfl _ _ 94 rfl w0.heap.size 22 i0 (.slice none 0 0) 1 Tryz.underlying94 HI0.out HZ0.out HZ1.out .i64 .i64 (c : Int) (c : Int) c rfl rfl rfl rfl (by rw [HZ2.out]; omega) (by unfold maxLen; omega) (Nat.le_refl _) ?_); intro w1 hown hgrow; have HR := Lib.hid (blk_made rfl hown); have hBm := belowMadeL hgrow; have HB1 := Lib.hid (belowVia hBm HB.out); have HC1 := Lib.hid (keptBelow hBm C1.out); clear hown hgrow hBm c0)
 rw [HSZ.out] at *
 go_loopw [12] (fun i wr => ∃ j : Nat, j ≤ c ∧ i = .int .i64 j ∧ (∃ vs : List Value, vs.length = j ∧ BlkB 22 (W.heap.size + 1) (vs ++ List.replicate (c - j) (.slice none 0 0)) wr ∧ ∀ q, q < j → ColOK wr (W.heap.size + 1) n (vs.getD q undef) (colL s q)) ∧ wr.cell? ⟨W.heap.size, 1, none⟩ = some (.slice a n ca) ∧ Below W.heap.size W wr) (fun i _ => c - (intOf i).toNat)
 case atStart => exact ⟨0, by omega, rfl, ⟨[], rfl, by simpa using HR.out, fun q hq => absurd hq (by omega)⟩, HC1.out, HB1.out⟩
 case round =>
  clear HR HC1 HB1 C1 HB
  obtain ⟨j, hj, rfl, ⟨vs, hvl, hblk, hcol⟩, c1, hB⟩ := hrel
  have NB := Lib.hid hblk
  have HCOL := Lib.hid hcol
  have HVL := Lib.hid hvl
  have HB := Lib.hid hB
  clear hblk hcol hvl hB
  by_cases hlt : j < c
  ·have hlt' : (j : Int) < c := by omega
   have hrep : List.replicate (c - j) (Value.slice none 0 0) = .slice none 0 0 :: List.replicate (c - (j + 1)) (.slice none 0 0) := by
    rw [show c - j = (c - (j + 1)) + 1 by omega, List.replicate_succ]
   rw [hrep] at NB
   clear hrep
   obtain ⟨rest, hrest⟩ : ∃ rest, rest = List.replicate (c - (j + 1)) (Value.slice none 0 0) := ⟨_, rfl⟩
   rw [← hrest] at NB
   have HRE := Lib.hid hrest
   clear hrest
   have hwj := NB.out.lt
   go_wp2_with fail
   generalize wr = wj at *
   go_loopw [18] (fun i wx => ∃ k : Nat, k ≤ n ∧ i = .int .i64 k ∧ Frm (W.heap.size + 1) wj wx ∧ (∃ v, BlkB 22 (W.heap.size + 1) (vs ++ v :: rest) wx ∧ wx.ownsRow wj.heap.size 3 1 v k (intsV ((colL s j).take k))) ∧ wx.cell? ⟨W.heap.size, 1, none⟩ = some (.slice a n ca) ∧ Below W.heap.size W wx) (fun i _ => n - (intOf i).toNat)
   case atStart => exact ⟨0, by omega, rfl, Frm.refl _ _, ⟨_, NB.out, World.ownsRow_nil _ _ _ _⟩, c1, HB.out⟩
   case round =>
    clear c1 HB NB
    obtain ⟨k, hk, rfl, hF, ⟨v, hblk, hown⟩, c1, hB⟩ := hrel
    have NB := Lib.hid hblk
    have HF := Lib.hid hF
    have HO := Lib.hid hown
    have HB := Lib.hid hB
    by_cases hkt : k < n
    ·have hkt' : (k : Int) < n := by omega
     have hkl : k < s.rows.length := by have := HN.out; omega
     obtain ⟨g, o, rfl, hr⟩ := HS.out.row hkl
     obtain ⟨ra, rc, e0, e1, e2, e3, e4⟩ := hr.ex
     have hrl := HLEN.out _ (getD_memR hkl)
     rw [← HC.out] at hrl
     have e0 := keptBelow hB e0
     have e1 := keptBelow hB e1
     have htk := colL_take (j := j) hkl
     obtain ⟨r, hr'⟩ : ∃ r, r = s.rows.getD k ([], 0) := ⟨_, rfl⟩
     rw [← hr'] at e0 e1 e2 e4 hrl htk
     clear hr hr'
     obtain ⟨l, y⟩ := r
     dsimp only at e0 e1 e2 e4 hrl htk
     obtain ⟨rl, hrl2⟩ : ∃ rl, rl = l.length := ⟨_, rfl⟩
     rw [← hrl2] at e0 e2 hrl
     have hjl : j < l.length := by omega
     obtain ⟨g2, o2, rfl, f0⟩ : ∃ g2 o2, ra = some ⟨g2, o2, none⟩ ∧ W.cell? ⟨g2, o2 + j, none⟩ = some (.int .i64 (l.getD j 0)) := by
      rcases e4 with h | ⟨g2, o2, h1, h2⟩
      ·rw [h] at hjl; simp at hjl
      ·exact ⟨g2, o2, h1, h2 j hjl⟩
     have hg2 := lt_of_cell f0
     have f0 := keptBelow hB f0
     have hjrl : (j : Int) < rl := by omega
     have hrlc : (rl : Int) ≤ rc := by omega
     have HTK := Lib.hid htk
     clear hkl hrl hrl2 hjl e4 htk e2
     generalize l.getD j 0 = x at *
     have hby := alloc_belowL wr (.cells #[.slice (some ⟨g2, o2, none⟩) rl rc, .int .i64 y] 60)
     have gby := heap_alloc_new wr (.cells #[.slice (some ⟨g2, o2, none⟩) rl rc, .int .i64 y] 60)
     have HD2 := Lib.hid ((cell_of_row _ _ 0 _ _ _ gby).trans rfl : (wr.alloc (.cells #[.slice (some ⟨g2, o2, none⟩) rl rc, .int .i64 y] 60)).cell? ⟨wr.heap.size, 0, none⟩ = some (.slice (some ⟨g2, o2, none⟩) rl rc))
     have HF2 := Lib.hid (HF.out.below hby)
     have HB2 := Lib.hid (belowVia hby HB.out)
     have HNB2 := Lib.hid (NB.out.via hby)
     have HO2 := Lib.hid (HO.out.alloc (.cells #[.slice (some ⟨g2, o2, none⟩) rl rc, .int .i64 y] 60))
     have HOO := Lib.hid (own_lt HO.out)
     have HD3 := Lib.hid (keptBelow hby f0)
     have HC2 := Lib.hid (keptBelow hby c1)
     obtain ⟨L, hL⟩ : ∃ L, L = (colL s j).take k := ⟨_, rfl⟩
     rw [← hL] at HTK HO2
     have hLl : L.length = k := by rw [hL, List.length_take, colL_len]; have := HN.out; omega
     have HLL := Lib.hid hLl
     have hwrs : wj.heap.size ≤ wr.heap.size := hF.size
     clear hby gby hF hblk hown hB hL hLl f0 HF HO HB NB
     go_upto_region 8 with fail
     change Code.wp _ _ _ _ (wr.alloc (.cells #[.slice (some ⟨g2, o2, none⟩) rl rc, .int .i64 y] 60))
     generalize wr.alloc (.cells #[.slice (some ⟨g2, o2, none⟩) rl rc, .int .i64 y] 60) = wy at *
     generalize wr.heap.size = q0 at *
     have NB := HNB2
     have d1 := HNB2.out.cell (mid_one vs v rest HVL.out)
     have d2 := HD2.out
     have d3 := HD3.out
     clear e0 e1 c1
     refine wp_region_K (fun w' => w'.cell? ⟨W.heap.size + 1, j, none⟩ = some v ∧ w'.cell? ⟨q0, 0, none⟩ = some (.slice (some ⟨g2, o2, none⟩) rl rc) ∧ w'.cell? ⟨g2, o2 + j, none⟩ = some (.int .i64 x)) 14 (by kernel_rfl) ?_
     refine wpK_tk (i := 0) (d := some 22) (v := ?_) rfl rfl (.inl ⟨by rfl, fun w hw => ?_⟩) ⟨d1, d2, d3⟩ ?_
     rotate_left
     ·clear hw; go_simp; with_reducible rfl
     try simp only [Act.put, tA, tB, tC]
     refine wpK_tk (i := 1) (d := some 23) (v := ?_) rfl rfl (.inl ⟨by rfl, fun w hw => ?_⟩) ⟨d1, d2, d3⟩ ?_
     rotate_left
     ·clear hw; go_simp; with_reducible rfl
     try simp only [Act.put, tA, tB, tC]
     refine wpK_tk (i := 2) (d := some 24) (v := ?_) rfl rfl (.inl ⟨by rfl, fun w hw => ?_⟩) ⟨d1, d2, d3⟩ ?_
     rotate_left
     ·clear hw; go_simp; with_reducible rfl
     try simp only [Act.put, tA, tB, tC]
     refine wpK_tk (i := 3) (d := some 25) (v := ?_) rfl rfl (.inl ⟨by rfl, fun w hw => ?_⟩) ⟨d1, d2, d3⟩ ?_
     rotate_left
     ·clear hw; go_simp; with_reducible rfl
     try simp only [Act.put, tA, tB, tC]
     refine wpK_tk (i := 4) (d := some 26) (v := ?_) rfl rfl (.inl ⟨by rfl, fun w hw => ?_⟩) ⟨d1, d2, d3⟩ ?_
     rotate_left
     ·clear hw; go_simp; with_reducible rfl
     try simp only [Act.put, tA, tB, tC]
     refine wpK_tk (i := 5) (d := some 27) (v := ?_) rfl rfl (.inl ⟨by rfl, fun w hw => ?_⟩) ⟨d1, d2, d3⟩ ?_
     rotate_left
     ·(obtain ⟨_, _, _⟩ := hw); go_simp; with_reducible rfl
     try simp only [Act.put, tA, tB, tC]
     refine wpK_tk (i := 6) (d := some 28) (v := ?_) rfl rfl (.inl ⟨by rfl, fun w hw => ?_⟩) ⟨d1, d2, d3⟩ ?_
     rotate_left
     ·clear hw; go_simp; with_reducible rfl
     try simp only [Act.put, tA, tB, tC]
     refine wpK_tk (i := 7) (d := some 29) (v := ?_) rfl rfl (.inl ⟨by rfl, fun w hw => ?_⟩) ⟨d1, d2, d3⟩ ?_
     rotate_left
     ·(obtain ⟨_, _, _⟩ := hw); go_simp; with_reducible rfl
     try simp only [Act.put, tA, tB, tC]
     refine wpK_tk (i := 8) (d := some 30) (v := ?_) rfl rfl (.inl ⟨by rfl, fun w hw => ?_⟩) ⟨d1, d2, d3⟩ ?_
     rotate_left
     ·clear hw; go_simp; with_reducible rfl
     try simp only [Act.put, tA, tB, tC]
     refine wpK_tk (i := 9) (d := some 31) (v := ?_) rfl rfl (.inl ⟨by rfl, fun w hw => ?_⟩) ⟨d1, d2, d3⟩ ?_
     rotate_left
     ·clear hw; go_simp; with_reducible rfl
     try simp only [Act.put, tA, tB, tC]
     refine wpK_tk (i := 10) (d := some 32) (v := ?_) rfl rfl (.inl ⟨by rfl, fun w hw => ?_⟩) ⟨d1, d2, d3⟩ ?_
     rotate_left
     ·(obtain ⟨_, _, _⟩ := hw); go_simp; with_reducible rfl
     try simp only [Act.put, tA, tB, tC]
     refine wpK_one (i := 11) (by kernel_rfl) rfl rfl ?_
     go_simp
     have hBa : Below wy.heap.size wy (wy.alloc (.cells #[.int .i64 x] 3)).drew := (alloc_belowL wy (.cells #[.int .i64 x] 3)).drew
     have b1 := HNB2.out.via hBa
     have d1 := keptBelow hBa d1
     have d2 := keptBelow hBa d2
     have d3 := keptBelow hBa d3
     have d0 := keptBelow hBa HC2.out
     have hO := (HO2.out.alloc (.cells #[.int .i64 x] 3)).drew
     have hn0 : ∀ i u, [Value.int .i64 x][i]? = some u → (wy.alloc (.cells #[.int .i64 x] 3)).drew.cell? ((⟨wy.heap.size, 0, none⟩ : Addr).add i) = some u := news_intC wy x 3 (b := wy.heap.size) rfl
     have hF := (Frm.below HF2.out hBa)
     have hB := belowVia hBa HB2.out
     have hyz : (wy.alloc (.cells #[.int .i64 x] 3)).drew.heap.size = wy.heap.size + 1 := by simp
     refine ⟨⟨d1, d2, d3⟩, ?_⟩
     try simp only [Act.put, tA, tB, tC]
     refine wpK_append (i := 12) (dt := 34) (by kernel_rfl) rfl rfl rfl _ _ _ rfl wj.heap.size 3 j0 (.int .i64 0) 1 8 Tryz.underlying22 HJ0.out HY0.out HY1.out HY2.out rfl (by decide) v k (intsV L) rfl hO ⟨wy.heap.size, 0, none⟩ 1 1 [.int .i64 x] rfl rfl hn0 (one_intC x) (by decide) (by unfold maxLen; omega) (by omega) (by have := hF.size; omega) ?_
     intro g' cap' w5 hown5 hgrow5 hat5 hlt5
     have hol := HOO.out
     have b1 := kept_blk hgrow5 b1 (fun p e => by have := (hol p e).1; omega)
     have d1 := kept_own hgrow5 d1 (fun p e => by have := (hol p e).1; omega)
     have d2 := kept_own hgrow5 d2 (fun p e => by have := (hol p e).2; omega)
     have d3 := kept_own hgrow5 d3 (fun p e => by have := (hol p e).1; omega)
     have d0 := kept_own hgrow5 d0 (fun p e => by have := (hol p e).1; omega)
     have hF := hF.grown hgrow5 (fun p e => (hol p e).1)
     have hB := hB.grown hgrow5 hB.size (fun p e => by have := (hol p e).1; omega)
     refine ⟨(fun _ => ⟨d1, d2, d3⟩), ?_⟩
     try simp only [Act.put, tA, tB, tC]
     refine wpK_tk (i := 13) (d := some 35) (v := ?_) rfl rfl (.inl ⟨by rfl, fun w hw => ?_⟩) ⟨d1, d2, d3⟩ ?_
     rotate_left
     ·clear hw; go_simp; with_reducible rfl
     try simp only [Act.put, tA, tB, tC]
     refine wpK_store1 (i := 14) (by kernel_rfl) rfl rfl rfl (by kernel_rfl) (by kernel_rfl) _ _ _ rfl (W.heap.size + 1) j (.slice (some ⟨g', 0, none⟩) (k + 1) cap') rfl rfl rfl (by rw [d1]; rfl) (b1.froz j) (by kernel_rfl) rfl ?_
     have hgl5 : W.heap.size + 1 ≠ g' := by
      have h5 := own_lt hown5 g' rfl
      omega
     have r1 := Lib.hid (hF.set j (.slice (some ⟨g', 0, none⟩) (k + 1) cap'))
     have r2 : Hid (BlkB 22 (W.heap.size + 1) (vs ++ .slice (some ⟨g', 0, none⟩) (k + 1) cap' :: rest) _) := Lib.hid (by have := b1.set j (.slice (some ⟨g', 0, none⟩) (k + 1) cap'); rw [mid_put _ _ _ _ HVL.out] at this; exact this)
     have r3 : Hid (World.ownsRow _ wj.heap.size 3 1 (.slice (some ⟨g', 0, none⟩) (k + 1) cap') (k + 1) (intsV ((colL s j).take (k + 1)))) := Lib.hid (by
      have := own_set hown5 (p := W.heap.size + 1) (i := j) (u := .slice (some ⟨g', 0, none⟩) (k + 1) cap') (fun k' e => by cases e; exact hgl5)
      rw [HTK.out]; unfold intsV at this ⊢; rw [List.map_append]; exact this)
     have r4 := Lib.hid ((World.cell?_setCell_other w5 ⟨W.heap.size + 1, j, none⟩ ⟨W.heap.size, 1, none⟩ (.slice (some ⟨g', 0, none⟩) (k + 1) cap') (by intro e; have := congrArg Addr.block e; dsimp only at this; omega)).trans d0)
     have r5 := Lib.hid (hB.setCell (p := ⟨W.heap.size + 1, j, none⟩) (show W.heap.size ≤ W.heap.size + 1 by omega) (.slice (some ⟨g', 0, none⟩) (k + 1) cap'))
     clear hF b1 hown5 hgrow5 hat5 hlt5 d0 d1 d2 d3 hB hBa hO hn0 hyz hol HNB2 HD2 HD3 HC2 HO2 HOO HF2 HB2 NB HTK HLL
     generalize w5.setCell ⟨W.heap.size + 1, j, none⟩ (.slice (some ⟨g', 0, none⟩) (k + 1) cap') = w6 at *
     go_wp2_with fail
     go_roundw
     case rel => exact ⟨k + 1, by omega, by go_num, r1.out, ⟨_, r2.out, r3.out⟩, r4.out, r5.out⟩
     case measure => simp [intOf]; omega
    ·obtain rfl : k = n := by omega
     have htk : (colL s j).take k = colL s j := List.take_of_length_le (by rw [colL_len]; have := HN.out; omega)
     rw [htk] at hown
     have hok : ColOK wr (W.heap.size + 1) k v (colL s j) := by
      obtain ⟨a', c', h1, h2, h3, h4, h5⟩ := owns_ints (by rw [colL_len]; exact HN.out) hown
      exact ⟨a', c', h1, h2, h3, h4, fun p o e => by have := h5 p o e; exact ⟨by omega, this.2⟩⟩
     have hcols : ∀ q, q < j + 1 → ColOK wr (W.heap.size + 1) k ((vs ++ [v]).getD q undef) (colL s q) := fun q hq => by
      by_cases e : q = j
      ·subst e; rw [getD_last HVL.out]; exact hok
      ·rw [getD_one HVL.out (by omega)]; exact (HCOL.out q (by omega)).frm hF
     have HCN := Lib.hid hcols
     have HBN : Hid (BlkB 22 (W.heap.size + 1) ((vs ++ [v]) ++ List.replicate (c - (j + 1)) (.slice none 0 0)) wr) := Lib.hid (by rw [List.append_assoc, ← HRE.out]; exact hblk)
     have HVL2 : Hid ((vs ++ [v]).length = j + 1) := Lib.hid (by rw [List.length_append, HVL.out]; rfl)
     clear hok hcols hown htk hblk hF hB
     go_wp2_with fail
     go_roundw
     case rel => exact ⟨j + 1, by omega, by go_num, ⟨vs ++ [v], HVL2.out, HBN.out, HCN.out⟩, c1, HB.out⟩
     case measure => simp [intOf]; omega
  ·obtain rfl : j = c := by omega
   have hbl : BlkB 22 (W.heap.size + 1) vs wr := by have := NB.out; rw [Nat.sub_self, List.replicate_zero, List.append_nil] at this; exact this
   have HBL := Lib.hid hbl
   clear hbl
   go_wp2_with fail
   go_ret
   exact ⟨⟨_, rfl, by omega, vs, HVL.out, HBL.out, HCOL.out⟩, HB.out⟩
end Go.Proofs.YtofmjkgaaphnkaaGreatDoor
/- LinOwn: Systems that a call has made for itself: their rows, and the rows' coefficients, lie in blocks of their own. -/
namespace Go.Proofs.YtofmjkgaaphnkaaGreatDoor
open Go.RowKit Putlog

/-- Blocks below N are as they were. -/
def KeepN (N : Nat) (w w' : World) : Prop := ∀ p, p < N → w'.heap[p]? = w.heap[p]?
theorem KeepN.refl (N : Nat) (w : World) : KeepN N w w := fun _ _ => rfl
theorem KeepN.trans {N : Nat} {a b c : World} (h : KeepN N a b) (k : KeepN N b c) : KeepN N a c := fun p hp => (k p hp).trans (h p hp)
theorem KeepN.below {N : Nat} {w w' : World} (hB : Below w.heap.size w w') (h : N ≤ w.heap.size) : KeepN N w w' := fun p hp => hB.block p (Nat.lt_of_lt_of_le hp h)
theorem KeepN.set {N p : Nat} (w : World) (h : N ≤ p) (i : Nat) (v : Value) : KeepN N w (w.setCell ⟨p, i, none⟩ v) := fun q hq => heap_setCell_other _ _ _ _ (by show q ≠ p; omega)
theorem KeepN.grown {N : Nat} {w w' : World} {v : Option Nat} (hg : w.grownBy w' v) (h : N ≤ w.heap.size) (hv : ∀ k, v = some k → N ≤ k) : KeepN N w w' := fun p hp => hg.block p (Nat.lt_of_lt_of_le hp h) (fun e => by have := hv p e.symm; omega)
theorem KeepN.mono {N M : Nat} {w w' : World} (h : KeepN N w w') (hM : M ≤ N) : KeepN M w w' := fun p hp => h p (by omega)
theorem KeepN.blk {N : Nat} {w w' : World} (h : KeepN N w w') {t : TypeId} {p : Nat} {l : List Value} (hb : BlkB t p l w) (hp : p < N) : BlkB t p l w' := (h p hp).trans hb
theorem own_keep {w w' : World} {B sz n : Nat} {t : TypeId} {v : Value} {xs : List Value} (h : w.ownsRow B t sz v n xs) (hs : ∀ k, v.ownBlock = some k → w'.heap[k]? = w.heap[k]?) : w'.ownsRow B t sz v n xs := by
 obtain ⟨h1, h2⟩ := h
 refine ⟨h1, ?_⟩
 rcases h2 with h2 | ⟨g, cap, cur, hv, hg, hh, r⟩
 ·exact .inl h2
 ·exact .inr ⟨g, cap, cur, hv, hg, (hs g (by rw [hv]; rfl)).trans hh, r⟩
theorem own_base {w : World} {B B' sz n : Nat} {t : TypeId} {v : Value} {xs : List Value} (h : w.ownsRow B t sz v n xs) (hb : B' ≤ B) : w.ownsRow B' t sz v n xs := by
 obtain ⟨h1, h2⟩ := h
 refine ⟨h1, ?_⟩
 rcases h2 with h2 | ⟨g, cap, cur, hv, hg, r⟩
 ·exact .inl h2
 ·exact .inr ⟨g, cap, cur, hv, Nat.le_trans hb hg, r⟩
theorem own_type {w : World} {B sz n B' sz' n' : Nat} {t t' : TypeId} {v v' : Value} {xs xs' : List Value} (h : w.ownsRow B t sz v n xs) (h' : w.ownsRow B' t' sz' v' n' xs') (ht : t ≠ t') : ∀ k, v.ownBlock = some k → v'.ownBlock ≠ some k := fun k hk hk' => by
 rcases h.2 with ⟨h0, _⟩ | ⟨g, cap, cur, hv, hg, hh, _⟩
 ·rw [h0] at hk; cases hk
 ·rcases h'.2 with ⟨h0, _⟩ | ⟨g', cap', cur', hv', hg', hh', _⟩
  ·rw [h0] at hk'; cases hk'
  ·rw [hv] at hk
   rw [hv'] at hk'
   cases hk
   cases hk'
   rw [hh] at hh'
   injection hh' with h1
   injection h1 with h2 h3
   exact ht h3
theorem own_cells {w : World} {B sz n : Nat} {t : TypeId} {v : Value} {xs : List Value} (h : w.ownsRow B t sz v n xs) : ∃ a c, v = .slice a n c ∧ n ≤ c ∧ (c : Int) ≤ 9223372036854775807 ∧ (xs = [] ∨ ∃ g, a = some ⟨g, 0, none⟩ ∧ B ≤ g ∧ g < w.heap.size ∧ ∀ j u, xs[j]? = some u → w.cell? ⟨g, j, none⟩ = some u) := by
 obtain ⟨h0, hv | ⟨g, cap, cur, hv, hg, hh, h1, h2, h3, h4⟩⟩ := h
 ·obtain ⟨h1, h2⟩ := hv
  subst h2
  exact ⟨none, 0, h1, Nat.le_refl _, by omega, .inl (List.eq_nil_of_length_eq_zero (by simpa using h0))⟩
 ·refine ⟨some ⟨g, 0, none⟩, cap, hv, h1, by unfold maxLen at h2; omega, .inr ⟨g, rfl, hg, (Array.getElem?_eq_some_iff.1 hh).1, fun j u hj => ?_⟩⟩
  rw [cell_of_row w g j cur _ (0, 0) hh]
  have hjn : j < xs.length := (List.getElem?_eq_some_iff.1 hj).1
  have h5 : (cur.toList.take (n * sz))[j]? = xs[j]? := by rw [h4]
  rw [List.getElem?_take_of_lt (by omega), Array.getElem?_toList] at h5
  rw [h5, hj]
/-- A row, and where its coefficients lie. -/
structure RowX where
 coef : List Int
 val : Int
 a : Option Addr
 c : Nat
def RowX.v (r : RowX) : Value := .slice r.a r.coef.length r.c
def RowX.p (r : RowX) : List Int × Int := (r.coef, r.val)
def rowU (r : RowX) : List Value := [r.v, .int .i64 r.val]
def rowsU (L : List RowX) : List Value := L.flatMap rowU
theorem rowsU_len : ∀ L : List RowX, (rowsU L).length = L.length * 2
 | [] => rfl
 | r :: L => by rw [rowsU, List.flatMap_cons, List.length_append, ← rowsU, rowsU_len L, List.length_cons]; simp [rowU]; omega
theorem rowsU_snoc (L : List RowX) (r : RowX) : rowsU (L ++ [r]) = rowsU L ++ rowU r := by simp [rowsU]
theorem rowsU_get : ∀ {L : List RowX} {i : Nat} (h : i < L.length), (rowsU L)[i * 2]? = some L[i].v ∧ (rowsU L)[i * 2 + 1]? = some (.int .i64 L[i].val)
 | r :: L, 0, _ => ⟨rfl, rfl⟩
 | r :: L, i + 1, h => by
  have hi : i < L.length := by simpa using h
  obtain ⟨h1, h2⟩ := rowsU_get hi
  have e : rowsU (r :: L) = r.v :: .int .i64 r.val :: rowsU L := rfl
  rw [e, show (i + 1) * 2 = i * 2 + 1 + 1 by omega, List.getElem?_cons_succ, List.getElem?_cons_succ, List.getElem?_cons_succ, List.getElem?_cons_succ]
  exact ⟨h1, h2⟩
structure SysO (B : Nat) (w : World) (L : List RowX) (v : Value) : Prop where
 top : w.ownsRow B 60 2 v L.length (rowsU L)
 rows : ∀ r ∈ L, w.ownsRow B 3 1 r.v r.coef.length (intsV r.coef)
 apart : L.Pairwise fun r q => ∀ k, r.v.ownBlock = some k → q.v.ownBlock ≠ some k
theorem SysO.nil (B : Nat) (w : World) : SysO B w [] (.slice none 0 0) := ⟨World.ownsRow_nil _ _ _ _, fun r hr => by simp at hr, List.Pairwise.nil⟩
theorem eq_ne_int : (60 : TypeId) ≠ 3 := by decide
theorem SysO.free {B : Nat} {w : World} {L : List RowX} {v : Value} (h : SysO B w L v) {r : RowX} (hr : r ∈ L) : ∀ k, r.v.ownBlock = some k → v.ownBlock ≠ some k := own_type (h.rows r hr) h.top (Ne.symm eq_ne_int)
theorem SysO.keep {B : Nat} {w w' : World} {L : List RowX} {v : Value} (h : SysO B w L v) (h1 : ∀ k, v.ownBlock = some k → w'.heap[k]? = w.heap[k]?) (h2 : ∀ r ∈ L, ∀ k, r.v.ownBlock = some k → w'.heap[k]? = w.heap[k]?) : SysO B w' L v :=
 ⟨own_keep h.top h1, fun r hr => own_keep (h.rows r hr) (h2 r hr), h.apart⟩
theorem SysO.via {B : Nat} {w w' : World} {L : List RowX} {v : Value} (h : SysO B w L v) (hB : Below w.heap.size w w') : SysO B w' L v :=
 h.keep (fun k hk => hB.block k (own_lt h.top k hk).2) (fun r hr k hk => hB.block k (own_lt (h.rows r hr) k hk).2)
theorem SysO.base {B B' : Nat} {w : World} {L : List RowX} {v : Value} (h : SysO B w L v) (hb : B' ≤ B) : SysO B' w L v := ⟨own_base h.top hb, fun r hr => own_base (h.rows r hr) hb, h.apart⟩
/-- All its blocks are below N. -/
def LtN (N : Nat) (L : List RowX) (v : Value) : Prop := (∀ k, v.ownBlock = some k → k < N) ∧ ∀ r ∈ L, ∀ k, r.v.ownBlock = some k → k < N
theorem SysO.lt {B : Nat} {w : World} {L : List RowX} {v : Value} (h : SysO B w L v) : LtN w.heap.size L v := ⟨fun k hk => (own_lt h.top k hk).2, fun r hr k hk => (own_lt (h.rows r hr) k hk).2⟩
theorem SysO.keepN {B N : Nat} {w w' : World} {L : List RowX} {v : Value} (h : SysO B w L v) (hl : LtN N L v) (hk : KeepN N w w') : SysO B w' L v :=
 h.keep (fun k e => hk k (hl.1 k e)) (fun r hr k e => hk k (hl.2 r hr k e))
/-- A further row. -/
theorem SysO.push {B : Nat} {wa w' : World} {L : List RowX} {v v' : Value} {r : RowX} (h : SysO B wa L v) (hr : wa.ownsRow B 3 1 r.v r.coef.length (intsV r.coef)) (hap : ∀ q ∈ L, ∀ k, q.v.ownBlock = some k → r.v.ownBlock ≠ some k)
  (hown : w'.ownsRow B 60 2 v' (L.length + 1) (rowsU L ++ rowU r)) (hg : wa.grownBy w' v.ownBlock) : SysO B w' (L ++ [r]) v' := by
 refine ⟨by rw [rowsU_snoc, List.length_append]; exact hown, fun q hq => ?_, ?_⟩
 ·rcases List.mem_append.1 hq with hq | hq
  ·exact own_keep (h.rows q hq) (fun k hk => hg.block k (own_lt (h.rows q hq) k hk).2 (fun e => h.free hq k hk e.symm))
  ·rw [List.mem_singleton] at hq; subst hq
   exact own_keep hr (fun k hk => hg.block k (own_lt hr k hk).2 (fun e => own_type hr h.top (Ne.symm eq_ne_int) k hk e.symm))
 ·rw [List.pairwise_append]
  exact ⟨h.apart, List.pairwise_singleton _ _, fun q hq r' hr' k hk => by rw [List.mem_singleton] at hr'; subst hr'; exact hap q hq k hk⟩
/-- It is a system in memory. -/
theorem SysO.sysM {B : Nat} {w : World} {L : List RowX} {v : Value} (h : SysO B w L v) {cols : Int} (hc : I64 cols) (hb : ∀ r ∈ L, (∀ x ∈ r.coef, I64 x) ∧ I64 r.val) : ∃ a c, v = .slice a L.length c ∧ SysM w ⟨cols, L.map RowX.p⟩ a c := by
 obtain ⟨a, c, h1, h2, h3, h4⟩ := own_cells h.top
 refine ⟨a, c, h1, ⟨by simpa using h2, h3, hc, ?_⟩⟩
 rcases h4 with h4 | ⟨g, h4, _, _, h5⟩
 ·left
  have := congrArg List.length h4
  rw [rowsU_len] at this
  have : L = [] := List.eq_nil_of_length_eq_zero (by simp at this; omega)
  rw [this]; rfl
 ·refine .inr ⟨g, 0, h4, fun k hk => ?_⟩
  have hk' : k < L.length := by simpa using hk
  have e : (L.map RowX.p).getD k ([], 0) = L[k].p := by
   rw [List.getD_eq_getElem?_getD, List.getElem?_map, List.getElem?_eq_getElem hk']; rfl
  show RowM w g (0 + k * 2) ((L.map RowX.p).getD k ([], 0))
  rw [e, Nat.zero_add]
  have hm := List.getElem_mem hk'
  obtain ⟨r1, r2⟩ := rowsU_get hk'
  obtain ⟨ra, rc, e1, e2, e3, e4, _⟩ := owns_ints rfl (h.rows _ hm)
  unfold RowX.v at e1
  injection e1 with f1 f2 f3
  refine ⟨⟨L[k].a, L[k].c, h5 _ _ r1, h5 _ _ r2, by rw [f3]; exact e2, by rw [f3]; exact e3, by rw [f1]; exact e4⟩, (hb _ hm).1, (hb _ hm).2⟩
end Go.Proofs.YtofmjkgaaphnkaaGreatDoor
/- LinNum: The numbers that determine a system, in memory; the contract of Misses. -/
namespace Go.Proofs.YtofmjkgaaphnkaaGreatDoor
open Go.RowKit Putlog

/-- Numbers in memory. -/
structure NumM (w : World) (x : NumX) (a b : Option Addr) (c d : Nat) : Prop where
 cols : I64 x.cols
 rows : I64 x.rows
 miss : I64 x.miss
 cof : IntsFrom w a x.coefs
 clen : x.coefs.length ≤ c
 ccap : (c : Int) ≤ 9223372036854775807
 cok : ∀ z ∈ x.coefs, I64 z
 hid : IntsFrom w b x.hidden
 hlen : x.hidden.length ≤ d
 hcap : (d : Int) ≤ 9223372036854775807
 hok : ∀ z ∈ x.hidden, I64 z
theorem NumM.via {w w' : World} {x : NumX} {a b : Option Addr} {c d : Nat} (h : NumM w x a b c d) (hB : Below w.heap.size w w') : NumM w' x a b c d :=
 ⟨h.cols, h.rows, h.miss, h.cof.via hB, h.clen, h.ccap, h.cok, h.hid.via hB, h.hlen, h.hcap, h.hok⟩
theorem atL_ok {l : List Int} (h : ∀ z ∈ l, I64 z) (i : Nat) : I64 (atL l i) := by
 unfold atL
 rw [List.getD_eq_getElem?_getD]
 cases e : l[i % l.length]? with
 | none => show I64 0; unfold I64; omega
 | some z => exact h z (List.mem_of_getElem? e)
theorem tdiv_ok {z : Int} {k : Int} (hk : 1 ≤ k) (h : I64 z) : I64 (z.tdiv k) := by
 have h1 := Int.natAbs_tdiv_le_natAbs z k
 unfold I64 at *
 rcases Int.lt_or_le z 0 with hz | hz
 ·have h2 : 0 ≤ (-z).tdiv k := Int.tdiv_nonneg (by omega) (by omega)
  rw [Int.neg_tdiv] at h2
  omega
 ·have h2 : 0 ≤ z.tdiv k := Int.tdiv_nonneg hz (by omega)
  omega
set_option maxRecDepth 100000 in
theorem misses_c (x : NumX) (a b : Option Addr) (c d : Nat) (W : World) (h : I64 x.miss) :
  Calls Tryz.prog 30 #[.agg #[.int .i64 x.cols, .int .i64 x.rows, .slice a x.coefs.length c, .slice b x.hidden.length d, .int .i64 x.miss]] W fun e w' => e = .returned (.bool (missX x)) ∧ Below W.heap.size W w' := by
 have HP := Lib.hid (fun w => rpick_any x.miss 3 h.1 h.2 (by decide) (by decide) w)
 have HM : Hid (missX x = (pkN x.miss 3 == 2)) := Lib.hid (by unfold missX; rw [Bool.eq_iff_iff]; simp)
 have HB := Lib.hid (alloc_belowL W (.cells #[.int .i64 x.cols, .int .i64 x.rows, .slice a x.coefs.length c, .slice b x.hidden.length d, .int .i64 x.miss] 24))
 generalize missX x = res at *
 generalize pkN x.miss 3 = p at *
 obtain ⟨q, hq⟩ : ∃ q, q = (p == 2) := ⟨_, rfl⟩
 rw [HM.out, ← hq]
 have hq2 : (p == 2) = q := hq.symm
 clear hq HM
 generalize x.coefs.length = n1 at *
 generalize x.hidden.length = n2 at *
 generalize x.miss = ms at *
 go_enter Tryz.func30, Tryz.ntmps30
 go_wp2_with fail
 refine (HP.out _).mono ?_
 rintro e w1 ⟨rfl, rfl⟩
 go_wp2_with fail
 go_ret
 exact ⟨rfl, HB.out⟩
end Go.Proofs.YtofmjkgaaphnkaaGreatDoor
/- LinDiv64: The contract of math/bits.Div64 at the divisor 10 to the power of 18, and of split. -/
namespace Go.Proofs.YtofmjkgaaphnkaaGreatDoor
open Go.RowKit Putlog

theorem or_high {a b : Int} {m : Nat} (ha : 0 ≤ a) (hb : 0 ≤ b) (hb2 : b < 2 ^ m) (h2 : a * 2 ^ m + b < 18446744073709551616) : bits .or .u64 (a * 2 ^ m) b = a * 2 ^ m + b := by
 obtain ⟨x, rfl⟩ : ∃ n : Nat, a = n := ⟨a.toNat, by omega⟩
 obtain ⟨y, rfl⟩ : ∃ n : Nat, b = n := ⟨b.toNat, by omega⟩
 have e : ((x : Int) * 2 ^ m) = ((x * 2 ^ m : Nat) : Int) := by simp
 rw [e] at h2 ⊢
 have hy : y < 2 ^ m := by
  have : ((2 ^ m : Nat) : Int) = 2 ^ m := by simp
  omega
 rw [bits_or_u64_nat _ _ (by omega) (by omega), Nat.mul_comm x, ← Nat.two_pow_add_eq_or_of_lt hy]
 omega
theorem and_low {a : Int} (m : Nat) (hm : m ≤ 64) (ha : 0 ≤ a) (ha2 : a < 18446744073709551616) : bits .and .u64 a ((2 ^ m - 1 : Nat) : Int) = a % (2 ^ m : Nat) := by
 obtain ⟨x, rfl⟩ : ∃ n : Nat, a = n := ⟨a.toNat, by omega⟩
 have : 2 ^ m ≤ 2 ^ 64 := Nat.pow_le_pow_right (by decide) hm
 rw [bits_and_u64_nat _ _ (by omega) (by omega), Nat.and_two_pow_sub_one_eq_mod]
 omega
theorem len18 : Lib.bitLen 1000000000000000000 = 60 := by decide
set_option maxRecDepth 100000 in
set_option maxHeartbeats 2000000 in
theorem div18 (hi lo : Int) (h0 : 0 ≤ hi) (h1 : hi < 1000000000000000000) (l0 : 0 ≤ lo) (l1 : lo < 18446744073709551616) (W : World) :
  Calls Tryz.prog 118 #[.int .u64 hi, .int .u64 lo, .int .u64 1000000000000000000] W fun e w' => e = .returned (.tuple #[.int .u64 ((hi * 18446744073709551616 + lo) / 1000000000000000000), .int .u64 ((hi * 18446744073709551616 + lo) % 1000000000000000000)]) ∧ (w' = W ∨ w' = W.drew) := by
 have hlz := fun w => Tryz.bits_LeadingZeros64 1000000000000000000 w (by decide) (by decide)
 rw [show (1000000000000000000 : Int).toNat = 1000000000000000000 from rfl, len18] at hlz
 by_cases z : hi = 0
 ·subst z
  rw [Int.zero_mul, Int.zero_add]
  have HLZ := Lib.hid hlz
  clear hlz
  go_enter Tryz.func118, Tryz.ntmps118
  have hq : lo.tdiv 1000000000000000000 = lo / 1000000000000000000 := Int.tdiv_eq_ediv_of_nonneg l0
  have hr : lo.tmod 1000000000000000000 = lo % 1000000000000000000 := Int.tmod_eq_emod_of_nonneg l0
  go_wp2_with fail
  go_region
  go_wp2_with fail
  go_ret2
  exact ⟨rfl, .inr rfl⟩
 ·have hz : (hi == 0) = false := by rw [beq_eq_false_iff_ne]; exact z
  have HLZ := Lib.hid hlz
  clear hlz
  obtain ⟨u, hu⟩ : ∃ u, u = hi * 16 + lo / 1152921504606846976 := ⟨_, rfl⟩
  obtain ⟨v, hv⟩ : ∃ v, v = lo % 1152921504606846976 * 16 := ⟨_, rfl⟩
  have e2 : IntKind.u64.wrap (lo * 16) = v := by rw [IntKind.wrap_u64]; omega
  have e5 : bits .and .u64 16000000000000000000 4294967295 = 1983905792 := by decide
  have e3 : bits .or .u64 (hi * 16) (lo / 1152921504606846976) = u := by
   have := or_high (a := hi) (b := lo / 1152921504606846976) (m := 4) h0 (by omega) (by omega) (by omega)
   rw [show (2 : Int) ^ 4 = 16 from rfl] at this
   rw [this, hu]
  have e4 : bits .and .u64 v 4294967295 = v % 4294967296 := and_low 32 (by decide) (by omega) (by omega)
  have u0 : 0 ≤ u := by omega
  have u1 : u < 16000000000000000000 := by omega
  have v0 : 0 ≤ v := by omega
  have v1 : v < 18446744073709551616 := by omega
  have HU := Lib.hid hu
  have HV := Lib.hid hv
  clear hu hv
  go_enter Tryz.func118, Tryz.ntmps118
  go_wp2_with fail
  refine (HLZ.out _).mono ?_
  rintro e w' ⟨rfl, rfl⟩
  go_wp2_with fail
  obtain ⟨d, hd⟩ : ∃ d, d = v / 4294967296 := ⟨_, rfl⟩
  obtain ⟨b, hb⟩ : ∃ b, b = v % 4294967296 := ⟨_, rfl⟩
  rw [← hd, ← hb]
  have d0 : 0 ≤ d := by omega
  have d1 : d < 4294967296 := by omega
  have b0 : 0 ≤ b := by omega
  have b1 : b < 4294967296 := by omega
  have HD := Lib.hid hd
  have HBB := Lib.hid hb
  have i1 : u / 3725290298 * 3725290298 ≤ u := by omega
  clear hd hb e2 e3 e4 e5 HLZ z hz
  go_loopw [15, 16] (fun x y wr => ∃ q r : Int, x = .int .u64 q ∧ y = .int .u64 r ∧ r = u - q * 3725290298 ∧ 0 ≤ r ∧ r < 4294967296 ∧ (u * 4294967296 + d) / 16000000000000000000 ≤ q ∧ wr = w') (fun x _ _ => (intOf x).toNat)
  case atStart => exact ⟨u / 3725290298, _, rfl, rfl, rfl, by omega, by omega, by omega, rfl⟩
  case round =>
   obtain ⟨q, r, rfl, rfl, hr, r0, r1, hq, hwr⟩ := hrel
   subst hwr
   have q0 : 0 ≤ q := by omega
   have q1 : q ≤ 4294967296 := by omega
   have p1 : q * 1983905792 ≤ 18446744073709551615 := by omega
   have HQ := Lib.hid hq
   have HR := Lib.hid hr
   clear hq hr
   by_cases c1 : 4294967296 ≤ q
   ·have q3 : 0 ≤ q - 1 := by omega
    by_cases c2 : r + 3725290298 < 4294967296
    ·go_wp2_with fail
     refine ⟨⟨q - 1, _, by rfl, by rfl, by have := HR.out; omega, by omega, by omega, by have := HQ.out; have := HR.out; omega, trivial⟩, by simp [intOf]; omega⟩
    ·have c2' : 4294967296 ≤ r + 3725290298 := by omega
     obtain ⟨Q, hqq⟩ : ∃ Q, q - 1 = Q := ⟨_, rfl⟩
     have HEQ : Hid (Q = (u * 4294967296 + d) / 16000000000000000000) := by show _ = _; have := HR.out; have := HQ.out; omega
     have Q0 : 0 ≤ Q := by omega
     have Q1 : Q ≤ 4294967296 := by omega
     obtain ⟨m, hm⟩ : ∃ m, m = (u * 4294967296 + d) % 16000000000000000000 := ⟨_, rfl⟩
     obtain ⟨n, hn⟩ : ∃ n, n = (m * 4294967296 + b) % 16000000000000000000 := ⟨_, rfl⟩
     have HNN := Lib.hid hn
     have HM : Hid (m = (u * 4294967296 + d) % 16000000000000000000 ∧ 0 ≤ m ∧ m < 16000000000000000000) := ⟨hm, by omega, by omega⟩
     have m0 := HM.out.2.1
     have m1 := HM.out.2.2
     have n0 : 0 ≤ n := by omega
     have n1 : n < 16000000000000000000 := by omega
     have hmw : IntKind.u64.wrap (IntKind.u64.wrap (IntKind.u64.wrap (u * 4294967296) + d) - IntKind.u64.wrap (Q * 16000000000000000000)) = m := by simp only [IntKind.wrap_u64]; have := HEQ.out; omega
     have htd : m.tdiv 3725290298 = m / 3725290298 := Int.tdiv_eq_ediv_of_nonneg m0
     have j1 : m / 3725290298 * 3725290298 ≤ m := by omega
     clear hm hn
     go_wp2_with fail
     go_loopw [16, 18] (fun y x wz => ∃ q2 r : Int, x = .int .u64 q2 ∧ y = .int .u64 r ∧ r = m - q2 * 3725290298 ∧ 0 ≤ r ∧ r < 4294967296 ∧ (m * 4294967296 + b) / 16000000000000000000 ≤ q2 ∧ wz = wr) (fun _ x _ => (intOf x).toNat)
     case atStart => exact ⟨m / 3725290298, _, rfl, rfl, rfl, by omega, by omega, by omega, rfl⟩
     case round =>
      obtain ⟨q2, r, rfl, rfl, hr2, r20, r21, hq2, rfl⟩ := hrel
      have q20 : 0 ≤ q2 := by omega
      have q21 : q2 ≤ 4294967296 := by omega
      have HQ2 := Lib.hid hq2
      have HR2 := Lib.hid hr2
      have p21 : q2 * 1983905792 ≤ 18446744073709551615 := by omega
      clear hq2 hr2
      by_cases c1 : 4294967296 ≤ q2
      ·have q3 : 0 ≤ q2 - 1 := by omega
       have q4 : q2 - 1 ≤ 4294967296 := by omega
       have p3 : (q2 - 1) * 16000000000000000000 ≤ 68719476736000000000000000000 := by omega
       by_cases c2 : r + 3725290298 < 4294967296
       ·go_wp2_with fail
        refine ⟨⟨q2 - 1, _, by rfl, by rfl, by have := HR2.out; omega, by omega, by omega, by have := HQ2.out; have := HR2.out; omega, trivial⟩, by simp [intOf]; omega⟩
       ·have c2' : 4294967296 ≤ r + 3725290298 := by omega
        have HEN : Hid ((q2 - 1) = (m * 4294967296 + b) / 16000000000000000000 ∧ n = (m * 4294967296 + b) % 16000000000000000000) := ⟨by have := HR2.out; have := HQ2.out; omega, by rw [HNN.out]⟩
        have hm2 : IntKind.u64.wrap (IntKind.u64.wrap (IntKind.u64.wrap (m * 4294967296) + b) - IntKind.u64.wrap ((q2 - 1) * 16000000000000000000)) = n := by simp only [IntKind.wrap_u64]; have := HEN.out; have := HM.out; omega
        have hq3 : Q * 4294967296 + (q2 - 1) ≤ 18446744073709551615 := by have := HEQ.out; have := HEN.out; have := HM.out; omega
        go_wp2_with fail
        go_ret2
        refine ⟨?_, .inl rfl⟩
        have a1 := HEN.out; have a2 := HM.out; have a3 := HU.out; have a4 := HV.out; have a5 := HD.out; have a6 := HBB.out; have a7 := HEQ.out
        have z1 : Q * 4294967296 + (q2 - 1) = (hi * 18446744073709551616 + lo) / 1000000000000000000 := by omega
        have z2 : n / 16 = (hi * 18446744073709551616 + lo) % 1000000000000000000 := by omega
        rw [z1, z2]
        rfl
      ·have c1' : q2 < 4294967296 := by omega
       by_cases c3 : 4294967296 * r + b < q2 * 1983905792
       ·have q3 : 0 ≤ q2 - 1 := by omega
        have q4 : q2 - 1 ≤ 4294967296 := by omega
        by_cases c2 : r + 3725290298 < 4294967296
        ·go_wp2_with fail
         refine ⟨⟨q2 - 1, _, by rfl, by rfl, by have := HR2.out; omega, by omega, by omega, by have := HQ2.out; have := HR2.out; omega, trivial⟩, by simp [intOf]; omega⟩
        ·have c2' : 4294967296 ≤ r + 3725290298 := by omega
         have HEN : Hid ((q2 - 1) = (m * 4294967296 + b) / 16000000000000000000 ∧ n = (m * 4294967296 + b) % 16000000000000000000) := ⟨by have := HR2.out; have := HQ2.out; omega, by rw [HNN.out]⟩
         have hm2 : IntKind.u64.wrap (IntKind.u64.wrap (IntKind.u64.wrap (m * 4294967296) + b) - IntKind.u64.wrap ((q2 - 1) * 16000000000000000000)) = n := by simp only [IntKind.wrap_u64]; have := HEN.out; have := HM.out; omega
         have hq3 : Q * 4294967296 + (q2 - 1) ≤ 18446744073709551615 := by have := HEQ.out; have := HEN.out; have := HM.out; omega
         go_wp2_with fail
         go_ret2
         refine ⟨?_, .inl rfl⟩
         have a1 := HEN.out; have a2 := HM.out; have a3 := HU.out; have a4 := HV.out; have a5 := HD.out; have a6 := HBB.out; have a7 := HEQ.out
         have z1 : Q * 4294967296 + (q2 - 1) = (hi * 18446744073709551616 + lo) / 1000000000000000000 := by omega
         have z2 : n / 16 = (hi * 18446744073709551616 + lo) % 1000000000000000000 := by omega
         rw [z1, z2]
         rfl
       ·have c3' : q2 * 1983905792 ≤ 4294967296 * r + b := by omega
        have HEN : Hid (q2 = (m * 4294967296 + b) / 16000000000000000000 ∧ n = (m * 4294967296 + b) % 16000000000000000000) := ⟨by have := HR2.out; have := HQ2.out; omega, by rw [HNN.out]⟩
        have hm2 : IntKind.u64.wrap (IntKind.u64.wrap (IntKind.u64.wrap (m * 4294967296) + b) - IntKind.u64.wrap (q2 * 16000000000000000000)) = n := by simp only [IntKind.wrap_u64]; have := HEN.out; have := HM.out; omega
        have hq3 : Q * 4294967296 + q2 ≤ 18446744073709551615 := by have := HEQ.out; have := HEN.out; have := HM.out; omega
        go_wp2_with fail
        go_ret2
        refine ⟨?_, .inl rfl⟩
        have a1 := HEN.out; have a2 := HM.out; have a3 := HU.out; have a4 := HV.out; have a5 := HD.out; have a6 := HBB.out; have a7 := HEQ.out
        have z1 : Q * 4294967296 + q2 = (hi * 18446744073709551616 + lo) / 1000000000000000000 := by omega
        have z2 : n / 16 = (hi * 18446744073709551616 + lo) % 1000000000000000000 := by omega
        rw [z1, z2]
        rfl
   ·have c1' : q < 4294967296 := by omega
    by_cases c3 : 4294967296 * r + d < q * 1983905792
    ·have q3 : 0 ≤ q - 1 := by omega
     by_cases c2 : r + 3725290298 < 4294967296
     ·go_wp2_with fail
      refine ⟨⟨q - 1, _, by rfl, by rfl, by have := HR.out; omega, by omega, by omega, by have := HQ.out; have := HR.out; omega, trivial⟩, by simp [intOf]; omega⟩
     ·have c2' : 4294967296 ≤ r + 3725290298 := by omega
      obtain ⟨Q, hqq⟩ : ∃ Q, q - 1 = Q := ⟨_, rfl⟩
      have HEQ : Hid (Q = (u * 4294967296 + d) / 16000000000000000000) := by show _ = _; have := HR.out; have := HQ.out; omega
      have Q0 : 0 ≤ Q := by omega
      have Q1 : Q ≤ 4294967296 := by omega
      obtain ⟨m, hm⟩ : ∃ m, m = (u * 4294967296 + d) % 16000000000000000000 := ⟨_, rfl⟩
      obtain ⟨n, hn⟩ : ∃ n, n = (m * 4294967296 + b) % 16000000000000000000 := ⟨_, rfl⟩
      have HNN := Lib.hid hn
      have HM : Hid (m = (u * 4294967296 + d) % 16000000000000000000 ∧ 0 ≤ m ∧ m < 16000000000000000000) := ⟨hm, by omega, by omega⟩
      have m0 := HM.out.2.1
      have m1 := HM.out.2.2
      have n0 : 0 ≤ n := by omega
      have n1 : n < 16000000000000000000 := by omega
      have hmw : IntKind.u64.wrap (IntKind.u64.wrap (IntKind.u64.wrap (u * 4294967296) + d) - IntKind.u64.wrap (Q * 16000000000000000000)) = m := by simp only [IntKind.wrap_u64]; have := HEQ.out; omega
      have htd : m.tdiv 3725290298 = m / 3725290298 := Int.tdiv_eq_ediv_of_nonneg m0
      have j1 : m / 3725290298 * 3725290298 ≤ m := by omega
      clear hm hn
      go_wp2_with fail
      go_loopw [16, 18] (fun y x wz => ∃ q2 r : Int, x = .int .u64 q2 ∧ y = .int .u64 r ∧ r = m - q2 * 3725290298 ∧ 0 ≤ r ∧ r < 4294967296 ∧ (m * 4294967296 + b) / 16000000000000000000 ≤ q2 ∧ wz = wr) (fun _ x _ => (intOf x).toNat)
      case atStart => exact ⟨m / 3725290298, _, rfl, rfl, rfl, by omega, by omega, by omega, rfl⟩
      case round =>
       obtain ⟨q2, r, rfl, rfl, hr2, r20, r21, hq2, rfl⟩ := hrel
       have q20 : 0 ≤ q2 := by omega
       have q21 : q2 ≤ 4294967296 := by omega
       have HQ2 := Lib.hid hq2
       have HR2 := Lib.hid hr2
       have p21 : q2 * 1983905792 ≤ 18446744073709551615 := by omega
       clear hq2 hr2
       by_cases c1 : 4294967296 ≤ q2
       ·have q3 : 0 ≤ q2 - 1 := by omega
        have q4 : q2 - 1 ≤ 4294967296 := by omega
        have p3 : (q2 - 1) * 16000000000000000000 ≤ 68719476736000000000000000000 := by omega
        by_cases c2 : r + 3725290298 < 4294967296
        ·go_wp2_with fail
         refine ⟨⟨q2 - 1, _, by rfl, by rfl, by have := HR2.out; omega, by omega, by omega, by have := HQ2.out; have := HR2.out; omega, trivial⟩, by simp [intOf]; omega⟩
        ·have c2' : 4294967296 ≤ r + 3725290298 := by omega
         have HEN : Hid ((q2 - 1) = (m * 4294967296 + b) / 16000000000000000000 ∧ n = (m * 4294967296 + b) % 16000000000000000000) := ⟨by have := HR2.out; have := HQ2.out; omega, by rw [HNN.out]⟩
         have hm2 : IntKind.u64.wrap (IntKind.u64.wrap (IntKind.u64.wrap (m * 4294967296) + b) - IntKind.u64.wrap ((q2 - 1) * 16000000000000000000)) = n := by simp only [IntKind.wrap_u64]; have := HEN.out; have := HM.out; omega
         have hq3 : Q * 4294967296 + (q2 - 1) ≤ 18446744073709551615 := by have := HEQ.out; have := HEN.out; have := HM.out; omega
         go_wp2_with fail
         go_ret2
         refine ⟨?_, .inl rfl⟩
         have a1 := HEN.out; have a2 := HM.out; have a3 := HU.out; have a4 := HV.out; have a5 := HD.out; have a6 := HBB.out; have a7 := HEQ.out
         have z1 : Q * 4294967296 + (q2 - 1) = (hi * 18446744073709551616 + lo) / 1000000000000000000 := by omega
         have z2 : n / 16 = (hi * 18446744073709551616 + lo) % 1000000000000000000 := by omega
         rw [z1, z2]
         rfl
       ·have c1' : q2 < 4294967296 := by omega
        by_cases c3 : 4294967296 * r + b < q2 * 1983905792
        ·have q3 : 0 ≤ q2 - 1 := by omega
         have q4 : q2 - 1 ≤ 4294967296 := by omega
         by_cases c2 : r + 3725290298 < 4294967296
         ·go_wp2_with fail
          refine ⟨⟨q2 - 1, _, by rfl, by rfl, by have := HR2.out; omega, by omega, by omega, by have := HQ2.out; have := HR2.out; omega, trivial⟩, by simp [intOf]; omega⟩
         ·have c2' : 4294967296 ≤ r + 3725290298 := by omega
          have HEN : Hid ((q2 - 1) = (m * 4294967296 + b) / 16000000000000000000 ∧ n = (m * 4294967296 + b) % 16000000000000000000) := ⟨by have := HR2.out; have := HQ2.out; omega, by rw [HNN.out]⟩
          have hm2 : IntKind.u64.wrap (IntKind.u64.wrap (IntKind.u64.wrap (m * 4294967296) + b) - IntKind.u64.wrap ((q2 - 1) * 16000000000000000000)) = n := by simp only [IntKind.wrap_u64]; have := HEN.out; have := HM.out; omega
          have hq3 : Q * 4294967296 + (q2 - 1) ≤ 18446744073709551615 := by have := HEQ.out; have := HEN.out; have := HM.out; omega
          go_wp2_with fail
          go_ret2
          refine ⟨?_, .inl rfl⟩
          have a1 := HEN.out; have a2 := HM.out; have a3 := HU.out; have a4 := HV.out; have a5 := HD.out; have a6 := HBB.out; have a7 := HEQ.out
          have z1 : Q * 4294967296 + (q2 - 1) = (hi * 18446744073709551616 + lo) / 1000000000000000000 := by omega
          have z2 : n / 16 = (hi * 18446744073709551616 + lo) % 1000000000000000000 := by omega
          rw [z1, z2]
          rfl
        ·have c3' : q2 * 1983905792 ≤ 4294967296 * r + b := by omega
         have HEN : Hid (q2 = (m * 4294967296 + b) / 16000000000000000000 ∧ n = (m * 4294967296 + b) % 16000000000000000000) := ⟨by have := HR2.out; have := HQ2.out; omega, by rw [HNN.out]⟩
         have hm2 : IntKind.u64.wrap (IntKind.u64.wrap (IntKind.u64.wrap (m * 4294967296) + b) - IntKind.u64.wrap (q2 * 16000000000000000000)) = n := by simp only [IntKind.wrap_u64]; have := HEN.out; have := HM.out; omega
         have hq3 : Q * 4294967296 + q2 ≤ 18446744073709551615 := by have := HEQ.out; have := HEN.out; have := HM.out; omega
         go_wp2_with fail
         go_ret2
         refine ⟨?_, .inl rfl⟩
         have a1 := HEN.out; have a2 := HM.out; have a3 := HU.out; have a4 := HV.out; have a5 := HD.out; have a6 := HBB.out; have a7 := HEQ.out
         have z1 : Q * 4294967296 + q2 = (hi * 18446744073709551616 + lo) / 1000000000000000000 := by omega
         have z2 : n / 16 = (hi * 18446744073709551616 + lo) % 1000000000000000000 := by omega
         rw [z1, z2]
         rfl
    ·have c3' : q * 1983905792 ≤ 4294967296 * r + d := by omega
     have HEQ : Hid (q = (u * 4294967296 + d) / 16000000000000000000) := by show _ = _; have := HR.out; have := HQ.out; omega
     obtain ⟨m, hm⟩ : ∃ m, m = (u * 4294967296 + d) % 16000000000000000000 := ⟨_, rfl⟩
     obtain ⟨n, hn⟩ : ∃ n, n = (m * 4294967296 + b) % 16000000000000000000 := ⟨_, rfl⟩
     have HNN := Lib.hid hn
     have HM : Hid (m = (u * 4294967296 + d) % 16000000000000000000 ∧ 0 ≤ m ∧ m < 16000000000000000000) := ⟨hm, by omega, by omega⟩
     have m0 := HM.out.2.1
     have m1 := HM.out.2.2
     have n0 : 0 ≤ n := by omega
     have n1 : n < 16000000000000000000 := by omega
     have hmw : IntKind.u64.wrap (IntKind.u64.wrap (IntKind.u64.wrap (u * 4294967296) + d) - IntKind.u64.wrap (q * 16000000000000000000)) = m := by simp only [IntKind.wrap_u64]; have := HEQ.out; omega
     have htd : m.tdiv 3725290298 = m / 3725290298 := Int.tdiv_eq_ediv_of_nonneg m0
     have j1 : m / 3725290298 * 3725290298 ≤ m := by omega
     clear hm hn
     go_wp2_with fail
     go_loopw [16, 18] (fun y x wz => ∃ q2 r : Int, x = .int .u64 q2 ∧ y = .int .u64 r ∧ r = m - q2 * 3725290298 ∧ 0 ≤ r ∧ r < 4294967296 ∧ (m * 4294967296 + b) / 16000000000000000000 ≤ q2 ∧ wz = wr) (fun _ x _ => (intOf x).toNat)
     case atStart => exact ⟨m / 3725290298, _, rfl, rfl, rfl, by omega, by omega, by omega, rfl⟩
     case round =>
      obtain ⟨q2, r, rfl, rfl, hr2, r20, r21, hq2, rfl⟩ := hrel
      have q20 : 0 ≤ q2 := by omega
      have q21 : q2 ≤ 4294967296 := by omega
      have HQ2 := Lib.hid hq2
      have HR2 := Lib.hid hr2
      have p21 : q2 * 1983905792 ≤ 18446744073709551615 := by omega
      clear hq2 hr2
      by_cases c1 : 4294967296 ≤ q2
      ·have q3 : 0 ≤ q2 - 1 := by omega
       have q4 : q2 - 1 ≤ 4294967296 := by omega
       have p3 : (q2 - 1) * 16000000000000000000 ≤ 68719476736000000000000000000 := by omega
       by_cases c2 : r + 3725290298 < 4294967296
       ·go_wp2_with fail
        refine ⟨⟨q2 - 1, _, by rfl, by rfl, by have := HR2.out; omega, by omega, by omega, by have := HQ2.out; have := HR2.out; omega, trivial⟩, by simp [intOf]; omega⟩
       ·have c2' : 4294967296 ≤ r + 3725290298 := by omega
        have HEN : Hid ((q2 - 1) = (m * 4294967296 + b) / 16000000000000000000 ∧ n = (m * 4294967296 + b) % 16000000000000000000) := ⟨by have := HR2.out; have := HQ2.out; omega, by rw [HNN.out]⟩
        have hm2 : IntKind.u64.wrap (IntKind.u64.wrap (IntKind.u64.wrap (m * 4294967296) + b) - IntKind.u64.wrap ((q2 - 1) * 16000000000000000000)) = n := by simp only [IntKind.wrap_u64]; have := HEN.out; have := HM.out; omega
        have hq3 : q * 4294967296 + (q2 - 1) ≤ 18446744073709551615 := by have := HEQ.out; have := HEN.out; have := HM.out; omega
        go_wp2_with fail
        go_ret2
        refine ⟨?_, .inl rfl⟩
        have a1 := HEN.out; have a2 := HM.out; have a3 := HU.out; have a4 := HV.out; have a5 := HD.out; have a6 := HBB.out; have a7 := HEQ.out
        have z1 : q * 4294967296 + (q2 - 1) = (hi * 18446744073709551616 + lo) / 1000000000000000000 := by omega
        have z2 : n / 16 = (hi * 18446744073709551616 + lo) % 1000000000000000000 := by omega
        rw [z1, z2]
        rfl
      ·have c1' : q2 < 4294967296 := by omega
       by_cases c3 : 4294967296 * r + b < q2 * 1983905792
       ·have q3 : 0 ≤ q2 - 1 := by omega
        have q4 : q2 - 1 ≤ 4294967296 := by omega
        by_cases c2 : r + 3725290298 < 4294967296
        ·go_wp2_with fail
         refine ⟨⟨q2 - 1, _, by rfl, by rfl, by have := HR2.out; omega, by omega, by omega, by have := HQ2.out; have := HR2.out; omega, trivial⟩, by simp [intOf]; omega⟩
        ·have c2' : 4294967296 ≤ r + 3725290298 := by omega
         have HEN : Hid ((q2 - 1) = (m * 4294967296 + b) / 16000000000000000000 ∧ n = (m * 4294967296 + b) % 16000000000000000000) := ⟨by have := HR2.out; have := HQ2.out; omega, by rw [HNN.out]⟩
         have hm2 : IntKind.u64.wrap (IntKind.u64.wrap (IntKind.u64.wrap (m * 4294967296) + b) - IntKind.u64.wrap ((q2 - 1) * 16000000000000000000)) = n := by simp only [IntKind.wrap_u64]; have := HEN.out; have := HM.out; omega
         have hq3 : q * 4294967296 + (q2 - 1) ≤ 18446744073709551615 := by have := HEQ.out; have := HEN.out; have := HM.out; omega
         go_wp2_with fail
         go_ret2
         refine ⟨?_, .inl rfl⟩
         have a1 := HEN.out; have a2 := HM.out; have a3 := HU.out; have a4 := HV.out; have a5 := HD.out; have a6 := HBB.out; have a7 := HEQ.out
         have z1 : q * 4294967296 + (q2 - 1) = (hi * 18446744073709551616 + lo) / 1000000000000000000 := by omega
         have z2 : n / 16 = (hi * 18446744073709551616 + lo) % 1000000000000000000 := by omega
         rw [z1, z2]
         rfl
       ·have c3' : q2 * 1983905792 ≤ 4294967296 * r + b := by omega
        have HEN : Hid (q2 = (m * 4294967296 + b) / 16000000000000000000 ∧ n = (m * 4294967296 + b) % 16000000000000000000) := ⟨by have := HR2.out; have := HQ2.out; omega, by rw [HNN.out]⟩
        have hm2 : IntKind.u64.wrap (IntKind.u64.wrap (IntKind.u64.wrap (m * 4294967296) + b) - IntKind.u64.wrap (q2 * 16000000000000000000)) = n := by simp only [IntKind.wrap_u64]; have := HEN.out; have := HM.out; omega
        have hq3 : q * 4294967296 + q2 ≤ 18446744073709551615 := by have := HEQ.out; have := HEN.out; have := HM.out; omega
        go_wp2_with fail
        go_ret2
        refine ⟨?_, .inl rfl⟩
        have a1 := HEN.out; have a2 := HM.out; have a3 := HU.out; have a4 := HV.out; have a5 := HD.out; have a6 := HBB.out; have a7 := HEQ.out
        have z1 : q * 4294967296 + q2 = (hi * 18446744073709551616 + lo) / 1000000000000000000 := by omega
        have z2 : n / 16 = (hi * 18446744073709551616 + lo) % 1000000000000000000 := by omega
        rw [z1, z2]
        rfl
end Go.Proofs.YtofmjkgaaphnkaaGreatDoor
/- LinSplit: The contract of split at 10 to the power of 18. -/
namespace Go.Proofs.YtofmjkgaaphnkaaGreatDoor
open Go.RowKit Putlog

def D18 : Int := 1000000000000000000
theorem split_step (z : Int) (k : Nat) (_hz : 0 ≤ z) :
  0 ≤ z / WB ^ (k + 1) % D18 ∧ z / WB ^ (k + 1) % D18 < 1000000000000000000 ∧
  (z / WB ^ (k + 1) % D18 * 18446744073709551616 + wd z k) / 1000000000000000000 = wd (z / D18) k ∧
  (z / WB ^ (k + 1) % D18 * 18446744073709551616 + wd z k) % 1000000000000000000 = z / WB ^ k % D18 := by
 have hD : (0 : Int) < D18 := by decide
 have e1 : z / WB ^ (k + 1) = z / WB ^ k / WB := by rw [Int.pow_succ, Int.ediv_ediv_of_nonneg (Int.le_of_lt (wbp_pos k))]
 have e2 : z / D18 / WB ^ k = z / WB ^ k / D18 := by
  rw [Int.ediv_ediv_of_nonneg (Int.le_of_lt hD), Int.mul_comm, ← Int.ediv_ediv_of_nonneg (Int.le_of_lt (wbp_pos k))]
 unfold wd
 rw [e1, e2]
 generalize z / WB ^ k = A
 have hA := Int.mul_ediv_add_emod A WB
 have hB := Int.mul_ediv_add_emod (A / WB) D18
 have l0 := Int.emod_nonneg A (show WB ≠ 0 by decide)
 have l1 := Int.emod_lt_of_pos A wb_pos
 have h0 := Int.emod_nonneg (A / WB) (show D18 ≠ 0 by decide)
 have h1 := Int.emod_lt_of_pos (A / WB) hD
 generalize A / WB % D18 = hi at *
 generalize A / WB / D18 = e at *
 generalize A % WB = lo at *
 generalize A / WB = B at *
 unfold WB D18 at *
 refine ⟨h0, h1, ?_, ?_⟩ <;> omega
theorem mixL_down (a c : Int) {i : Nat} (h : i < 10) : (mixL a c (i + 1)).set i (.int .u64 (wd c i)) = mixL a c i := by
 apply List.ext_getElem?
 intro j
 rw [List.getElem?_set]
 by_cases e : i = j
 ·subst e
  rw [if_pos rfl, if_pos (by rw [mixL_len]; exact h), mixL_get _ _ _ h, if_neg (by omega)]
 ·rw [if_neg e]
  by_cases hj : j < 10
  ·rw [mixL_get _ _ _ hj, mixL_get _ _ _ hj]
   by_cases k : j < i
   ·rw [if_pos (by omega), if_pos k]
   ·rw [if_neg (by omega), if_neg k]
  ·rw [List.getElem?_eq_none (by rw [mixL_len]; omega), List.getElem?_eq_none (by rw [mixL_len]; omega)]
set_option maxRecDepth 100000 in
set_option maxHeartbeats 1000000 in
theorem split_num (z : Int) (p : Nat) (h0 : 0 ≤ z) (h1 : z < WB ^ 10) (W : World) (hz : NumB p (numL z) W) :
  Calls Tryz.prog 98 #[.pointer (some ⟨p, 0, none⟩), .int .u64 1000000000000000000] W fun e w' => e = .returned (.int .u64 (z % D18)) ∧ NumB p (numL (z / D18)) w' ∧ OnlyAt p W w' := by
 have hp : p < W.heap.size := (Array.getElem?_eq_some_iff.1 hz).1
 have HO := Lib.hid (OnlyAt.refl p W hp)
 have HST := Lib.hid (fun k => split_step z k h0)
 have hs0 : z / WB ^ 10 % D18 = 0 := by rw [Int.ediv_eq_zero_of_lt h0 h1, Int.zero_emod]
 have HS0 := Lib.hid hs0
 have HN : Hid (NumB p (mixL z (z / D18) 10) W) := Lib.hid (by rw [mixL_ten]; exact hz)
 have HE0 := Lib.hid (mixL_zero z (z / D18))
 have HPZ : Hid (z / WB ^ 0 % D18 = z % D18) := by show _ = _; rw [Int.pow_zero, Int.ediv_one]
 clear h0 h1 hp hs0 hz
 generalize z / D18 = q at *
 go_enter Tryz.func98, Tryz.ntmps98
 go_wp2_with fail
 go_loopw [5, 6] (fun r i wr => ∃ k : Nat, k ≤ 10 ∧ i = .int .i64 ((k : Int) - 1) ∧ r = .int .u64 (z / WB ^ k % D18) ∧ NumB p (mixL z q k) wr ∧ OnlyAt p W wr) (fun _ i _ => (intOf i + 1).toNat)
 case atStart => exact ⟨10, by omega, rfl, by rw [HS0.out], HN.out, HO.out⟩
 case round =>
  obtain ⟨k, hk, rfl, rfl, n1, ho⟩ := hrel
  have N1 := Lib.hid n1
  have O1 := Lib.hid ho
  clear n1 ho HO HN
  cases k with
  | zero =>
   rw [HE0.out] at N1
   obtain ⟨m, hm⟩ : ∃ m, m = z / WB ^ 0 % D18 := ⟨_, rfl⟩
   rw [← hm]
   have HMM : Hid (m = z % D18) := hm.trans HPZ.out
   clear HST HS0 HPZ hm
   go_wp2_with fail
   go_ret
   exact ⟨by rw [HMM.out]; rfl, N1.out, O1.out⟩
  | succ k =>
   obtain ⟨s0, s1, s2, s3⟩ := HST.out k
   have hki : (((k + 1 : Nat) : Int) - 1) = k := by omega
   rw [hki]
   have hk9 : (k : Int) < 10 := by omega
   have c0 := N1.out.cell (mixL_get z q (k + 1) (j := k) (by omega))
   rw [if_pos (by omega)] at c0
   have c1 := N1.out.froz k
   have l0 := wd_lo z k
   have l1 := wd_hi z k
   have N1' := N1.out.set k (.int .u64 (wd q k))
   rw [mixL_down _ _ (by omega)] at N1'
   have HMD := Lib.hid (mixL_down z q (i := k) (by omega))
   have HDV := Lib.hid (fun w => div18 (z / WB ^ (k + 1) % D18) (wd z k) s0 s1 l0 l1 w)
   rw [s2, s3] at HDV
   obtain ⟨r2, hr2⟩ : ∃ r2, r2 = z / WB ^ k % D18 := ⟨_, rfl⟩
   rw [← hr2] at HDV
   have HR2 := Lib.hid hr2
   clear N1' s0 s1 s2 s3 hki hr2 HST HS0 HPZ HE0 l0 l1
   generalize z / WB ^ (k + 1) % D18 = r at *
   generalize wd z k = x at *
   generalize wd q k = y at *
   go_wp2_with fail
   go_region_law (first | (go_simp; go_at_call 118; (with_reducible refine (HDV.out _).mono ?_); rintro e u1 ⟨rfl, hu1⟩; have k0 : u1.cell? ⟨p, k, none⟩ = some (.int .u64 x) := (by rcases hu1 with rfl | rfl <;> exact c0); have k1 : u1.frozen? ⟨p, k, none⟩ = false := (by rcases hu1 with rfl | rfl <;> exact c1); have KO : Hid (OnlyAt p W u1) := (by rcases hu1 with rfl | rfl; exact O1.out.drew; exact O1.out.drew.drew); have KN : Hid (NumB p (mixL z q (k + 1)) u1) := (by rcases hu1 with rfl | rfl <;> exact N1.out)))
   all_goals
    have NX := Lib.hid (KN.out.set k (.int .u64 y))
    rw [HMD.out] at NX
    have OX := Lib.hid (KO.out.set k (.int .u64 y))
    clear k0 k1 KO KN
    go_wp2_with fail
    go_roundw
    case rel => exact ⟨k, by omega, (by first | rfl | go_num), by rw [HR2.out], NX.out, OX.out⟩
    case measure => first | (simp [intOf]; done) | (simp [intOf]; omega)
end Go.Proofs.YtofmjkgaaphnkaaGreatDoor
/- LinHalfP: Plain mathematics of layer 6: a number moved down. Nothing of the program. -/
namespace Putlog

theorem two_wb : ∀ m : Nat, (2 : Int) ^ (64 * m) = WB ^ m
 | 0 => rfl
 | m + 1 => by rw [Nat.mul_add, Int.pow_add, two_wb m, Int.pow_succ]; rfl
theorem half_parts {A p q : Int} (hp : 0 < p) (hq : 0 < q) (h : p * q = WB) : A / p % WB = A % WB / p + A / WB % WB % p * q ∧ A % WB / p < q := by
 have hw : (0 : Int) < WB := by rw [← h]; exact Int.mul_pos hp hq
 obtain ⟨a, ha⟩ : ∃ a, a = A % WB := ⟨_, rfl⟩
 obtain ⟨B, hB⟩ : ∃ B, B = A / WB := ⟨_, rfl⟩
 have e1 : A = WB * B + a := by rw [ha, hB]; exact (Int.mul_ediv_add_emod A WB).symm
 have a0 : 0 ≤ a := by rw [ha]; exact Int.emod_nonneg _ (Int.ne_of_gt hw)
 have a1 : a < WB := by rw [ha]; exact Int.emod_lt_of_pos _ hw
 rw [← ha, ← hB]
 have e2 : A / p = q * B + a / p := by
  rw [e1, ← h, Int.mul_assoc, Int.add_comm, Int.add_mul_ediv_left _ _ (Int.ne_of_gt hp), Int.add_comm]
 have e3 : B % WB % p = B % p := Int.emod_emod_of_dvd B ⟨q, h.symm⟩
 have e4 := Int.mul_ediv_add_emod B p
 have b0 : 0 ≤ B % p := Int.emod_nonneg _ (Int.ne_of_gt hp)
 have b1 : B % p < p := Int.emod_lt_of_pos _ hp
 have c0 : 0 ≤ a / p := Int.ediv_nonneg a0 (Int.le_of_lt hp)
 have c1 : a / p < q := Int.ediv_lt_of_lt_mul hp (by rw [Int.mul_comm, h]; exact a1)
 refine ⟨?_, c1⟩
 rw [e2, e3]
 generalize B % p = b at *
 generalize a / p = c at *
 have e5 : q * B + c = (c + b * q) + WB * (B / p) := by
  conv => lhs; rw [← e4]
  rw [Int.mul_add, ← Int.mul_assoc, Int.mul_comm q p, h, Int.mul_comm q b]; omega
 rw [e5, Int.add_mul_emod_self_left]
 refine Int.emod_eq_of_lt (by have := Int.mul_nonneg b0 (Int.le_of_lt hq); omega) ?_
 have : b * q ≤ (p - 1) * q := Int.mul_le_mul_of_nonneg_right (by omega) (Int.le_of_lt hq)
 rw [Int.sub_mul, h, Int.one_mul] at this
 omega
theorem half_word (z : Int) {m s i : Nat} (hs : s < 64) : wd (z / 2 ^ (64 * m + s)) i = wd z (i + m) / 2 ^ s + wd z (i + m + 1) % 2 ^ s * 2 ^ (64 - s) ∧ wd z (i + m) / 2 ^ s < 2 ^ (64 - s) := by
 have hp : (0 : Int) < 2 ^ s := Int.pow_pos (by decide)
 have hq : (0 : Int) < 2 ^ (64 - s) := Int.pow_pos (by decide)
 have h : (2 : Int) ^ s * 2 ^ (64 - s) = WB := by rw [← Int.pow_add, Nat.add_sub_cancel' (by omega)]; rfl
 have hA : z / 2 ^ (64 * m + s) / WB ^ i = z / WB ^ (i + m) / 2 ^ s := by
  rw [Int.ediv_ediv_of_nonneg (Int.le_of_lt (Int.pow_pos (by decide))), Int.ediv_ediv_of_nonneg (Int.le_of_lt (wbp_pos _)), Int.pow_add, two_wb, Int.pow_add]
  congr 1
  rw [Int.mul_comm (WB ^ m), Int.mul_assoc, Int.mul_comm (WB ^ i), Int.mul_comm (2 ^ s)]
 have hB : z / WB ^ (i + m + 1) = z / WB ^ (i + m) / WB := by rw [Int.pow_succ, Int.ediv_ediv_of_nonneg (Int.le_of_lt (wbp_pos _))]
 have k := half_parts (A := z / WB ^ (i + m)) hp hq h
 unfold wd
 rw [hA, hB]
 exact k
/-- Beyond the tenth word all are the sign's. -/
theorem wd_high {z : Int} (h0 : -WB ^ 10 ≤ z) (h1 : z < WB ^ 10) {i : Nat} (hi : 10 ≤ i) : wd z i = if z < 0 then WB - 1 else 0 := by
 have hm : WB ^ 10 ≤ WB ^ i := by
  obtain ⟨j, rfl⟩ : ∃ j, i = 10 + j := ⟨i - 10, by omega⟩
  rw [Int.pow_add]
  have := Int.mul_le_mul_of_nonneg_left (show (1 : Int) ≤ WB ^ j by have := wbp_pos j; omega) (Int.le_of_lt (wbp_pos 10))
  omega
 have hp := wbp_pos i
 unfold wd
 split
 ·rename_i hz
  have : z / WB ^ i = -1 := by
   have l1 : z / WB ^ i < 0 := Int.ediv_neg_of_neg_of_pos hz hp
   have l2 : -1 ≤ z / WB ^ i := by rw [Int.le_ediv_iff_mul_le hp]; omega
   omega
  rw [this]; rfl
 ·rename_i hz
  rw [Int.ediv_eq_zero_of_lt (by omega) (by omega)]; rfl
end Putlog
/- LinHalf: The contract of halved: a number divided by a power of two, rounded down. -/
namespace Go.Proofs.YtofmjkgaaphnkaaGreatDoor
open Go.RowKit Putlog

theorem or_low {a b : Int} {m : Nat} (ha : 0 ≤ a) (hb : 0 ≤ b) (hb2 : b < 2 ^ m) (h2 : a * 2 ^ m + b < 18446744073709551616) : bits .or .u64 b (a * 2 ^ m) = b + a * 2 ^ m := by
 obtain ⟨x, rfl⟩ : ∃ n : Nat, a = n := ⟨a.toNat, by omega⟩
 obtain ⟨y, rfl⟩ : ∃ n : Nat, b = n := ⟨b.toNat, by omega⟩
 have e : ((x : Int) * 2 ^ m) = ((x * 2 ^ m : Nat) : Int) := by simp
 rw [e] at h2 ⊢
 have hy : y < 2 ^ m := by
  have : ((2 ^ m : Nat) : Int) = 2 ^ m := by simp
  omega
 rw [bits_or_u64_nat _ _ (by omega) (by omega), Nat.or_comm, Nat.mul_comm x, ← Nat.two_pow_add_eq_or_of_lt hy]
 omega
theorem or_half {x y : Int} {s c : Nat} (hc : s + c = 64) (x0 : 0 ≤ x) (hx : x / 2 ^ s < 2 ^ c) (_y0 : 0 ≤ y) : bits .or .u64 (x / 2 ^ s) (IntKind.u64.wrap (y * 2 ^ c)) = x / 2 ^ s + y % 2 ^ s * 2 ^ c := by
 have hp : (0 : Int) < 2 ^ s := Int.pow_pos (by decide)
 have hq : (0 : Int) < 2 ^ c := Int.pow_pos (by decide)
 have h : (2 : Int) ^ s * 2 ^ c = 18446744073709551616 := by rw [← Int.pow_add, hc]; rfl
 have e : IntKind.u64.wrap (y * 2 ^ c) = y % 2 ^ s * 2 ^ c := by
  rw [IntKind.wrap_u64, ← h, Int.mul_comm y, Int.mul_comm (2 ^ s), Int.mul_emod_mul_of_pos _ _ hq, Int.mul_comm]
 have b0 := Int.emod_nonneg y (Int.ne_of_gt hp)
 have b1 := Int.emod_lt_of_pos y hp
 rw [e]
 refine or_low b0 (Int.ediv_nonneg x0 (Int.le_of_lt hp)) hx ?_
 have := Int.mul_le_mul_of_nonneg_right (show y % 2 ^ s ≤ 2 ^ s - 1 by omega) (Int.le_of_lt hq)
 rw [Int.sub_mul, h, Int.one_mul] at this
 omega
set_option maxRecDepth 100000 in
set_option maxHeartbeats 1000000 in
theorem above_num (z : Int) (i p g : Nat) (h0 : -HM ≤ z) (h1 : z < HM) (hi : i ≤ 100) (W : World) (hp : NumB p (numL z) W) (hg : W.cell? ⟨g, 0, none⟩ = some (.int .u64 (if z < 0 then WB - 1 else 0))) :
  Calls Tryz.prog 128 #[.int .i64 i, .pointer (some ⟨p, 0, none⟩), .pointer (some ⟨g, 0, none⟩)] W fun e w' => e = .returned (.int .u64 (wd z i)) ∧ w' = W := by
 by_cases h : i < 10
 ·have c0 := hp.cell (numL_get z h)
  have hi' : (i : Int) < 10 := by omega
  clear hg hp h0 h1
  generalize wd z i = x at *
  go_enter Tryz.func128, Tryz.ntmps128
  go_wp2_with fail
  go_ret
  exact ⟨rfl, rfl⟩
 ·have hm := hm_two
  have hm0 : (0 : Int) ≤ HM := by decide
  have hx : (if z < 0 then WB - 1 else 0) = wd z i := (wd_high (z := z) (i := i) (by rw [← hm]; omega) (by rw [← hm]; omega) (by omega)).symm
  rw [hx] at hg
  have hi' : (10 : Int) ≤ i := by omega
  have hi2 : (i : Int) ≤ 100 := by omega
  clear hp h0 h1 hm hm0 hx h
  generalize wd z i = x at *
  go_enter Tryz.func128, Tryz.ntmps128
  go_wp2_with fail
  go_ret
  exact ⟨rfl, rfl⟩
set_option maxRecDepth 100000 in
set_option maxHeartbeats 1000000 in
theorem halved_num (z : Int) (m s : Nat) (hs : s < 64) (hm : m < 10) (h0 : -HM ≤ z) (h1 : z < HM) (W : World) :
  Calls Tryz.prog 103 #[.agg (numL z).toArray, .int .i64 (64 * m + s : Nat)] W fun e w' => e = .returned (.agg (numL (z / 2 ^ (64 * m + s))).toArray) ∧ Below W.heap.size W w' := by
 have hx0 := wd_lo z 9
 have hx1 := wd_hi z 9
 have hq : ((64 * m + s : Nat) : Int).tdiv 64 = (m : Nat) := by rw [Int.tdiv_eq_ediv_of_nonneg (by omega)]; omega
 have hr : ((64 * m + s : Nat) : Int).tmod 64 = (s : Nat) := by rw [Int.tmod_eq_emod_of_nonneg (by omega)]; omega
 obtain ⟨t, ht⟩ : ∃ t, t = 64 * m + s := ⟨_, rfl⟩
 rw [← ht] at hq hr ⊢
 have htb : (t : Int) ≤ 640 := by omega
 have hl9 := numL_get z (i := 9) (by omega)
 have HT := Lib.hid ht
 have HTW := Lib.hid (top_word h0 h1)
 have HH := Lib.hid (And.intro h0 h1)
 clear ht h0 h1
 have hb1 := alloc_belowL W (.cells (numL z).toArray 81)
 have g1 := heap_alloc_new W (.cells (numL z).toArray 81)
 have hc9 : (W.alloc (.cells (numL z).toArray 81)).cell? ⟨W.heap.size, 9, none⟩ = some (.int .u64 (wd z 9)) := NumB.cell (l := numL z) g1 hl9
 go_enter Tryz.func103, Tryz.ntmps103
 generalize wd z 9 = x at *
 go_upto_region 6 with fail
 have hsx : IntKind.u64.wrap (-(x / 9223372036854775808)) = if z < 0 then WB - 1 else 0 := by
  obtain ⟨t1, t2⟩ := HTW.out
  rw [IntKind.wrap_u64]
  split
  ·have := t1 (by assumption)
   have e : x / 9223372036854775808 = 1 := by omega
   rw [e]; rfl
  ·have := t2 (by omega)
   have e : x / 9223372036854775808 = 0 := by omega
   rw [e]; rfl
 rw [hsx]
 clear hsx HTW hx0 hx1 hl9 hc9 htb hq hr hb1 g1
 change Code.wp _ _ _ _ ((((W.alloc (.cells (numL z).toArray 81)).alloc (.cells zeroL.toArray 81)).alloc (.cells #[.int .u64 (if z < 0 then WB - 1 else 0)] 79)).alloc (.cells zeroL.toArray 81))
 have hb1 := alloc_belowL W (.cells (numL z).toArray 81)
 have g1 := heap_alloc_new W (.cells (numL z).toArray 81)
 have hb2 := alloc_belowL (W.alloc (.cells (numL z).toArray 81)) (.cells zeroL.toArray 81)
 have g2 := heap_alloc_new (W.alloc (.cells (numL z).toArray 81)) (.cells zeroL.toArray 81)
 have hb3 := alloc_belowL ((W.alloc (.cells (numL z).toArray 81)).alloc (.cells zeroL.toArray 81)) (.cells #[.int .u64 (if z < 0 then WB - 1 else 0)] 79)
 have g3 := heap_alloc_new ((W.alloc (.cells (numL z).toArray 81)).alloc (.cells zeroL.toArray 81)) (.cells #[.int .u64 (if z < 0 then WB - 1 else 0)] 79)
 have hb4 := alloc_belowL (((W.alloc (.cells (numL z).toArray 81)).alloc (.cells zeroL.toArray 81)).alloc (.cells #[.int .u64 (if z < 0 then WB - 1 else 0)] 79)) (.cells zeroL.toArray 81)
 have g4 := heap_alloc_new (((W.alloc (.cells (numL z).toArray 81)).alloc (.cells zeroL.toArray 81)).alloc (.cells #[.int .u64 (if z < 0 then WB - 1 else 0)] 79)) (.cells zeroL.toArray 81)
 simp only [alloc_sizeL] at g2 g3 g4
 have HB := Lib.hid (belowVia hb4 (belowVia hb3 (belowVia hb2 hb1)))
 have N1 : Hid (NumB W.heap.size (numL z) _) := Lib.hid (heap_belowL (belowVia hb4 (belowVia hb3 hb2)) g1)
 have N2 : Hid (NumB (W.heap.size + 1) zeroL _) := Lib.hid (heap_belowL (belowVia hb4 hb3) g2)
 have g3' := heap_belowL hb4 g3
 have N4 : Hid (NumB (W.heap.size + 1 + 1 + 1) (mixL (z / 2 ^ t) 0 0) _) := Lib.hid (by rw [mixL_zero, num_zero]; exact g4)
 have C3 := Lib.hid ((cell_of_row _ _ 0 _ _ _ g3').trans (by rfl : _ = some (.int .u64 (if z < 0 then WB - 1 else 0))))
 clear hb1 hb2 hb3 hb4 g1 g2 g3 g3' g4
 generalize (((W.alloc (.cells (numL z).toArray 81)).alloc (.cells zeroL.toArray 81)).alloc (.cells #[.int .u64 (if z < 0 then WB - 1 else 0)] 79)).alloc (.cells zeroL.toArray 81) = w0 at *
 go_loopw [10, 20] (fun _ i wr => ∃ k : Nat, k ≤ 10 ∧ i = .int .i64 k ∧ NumB W.heap.size (numL z) wr ∧ NumB (W.heap.size + 1) zeroL wr ∧ wr.cell? ⟨W.heap.size + 1 + 1, 0, none⟩ = some (.int .u64 (if z < 0 then WB - 1 else 0)) ∧ NumB (W.heap.size + 1 + 1 + 1) (mixL (z / 2 ^ t) 0 k) wr ∧ Below W.heap.size W wr) (fun _ i _ => 10 - (intOf i).toNat)
 case atStart => exact ⟨0, by omega, rfl, N1.out, N2.out, C3.out, N4.out, HB.out⟩
 case round =>
  clear N1 N2 C3 N4 HB
  obtain ⟨k, hk, rfl, n1, n2, c3, n4, hB⟩ := hrel
  have N1 := Lib.hid n1
  have N2 := Lib.hid n2
  have C3 := Lib.hid c3
  have N4 := Lib.hid n4
  have HB := Lib.hid hB
  clear n1 n2 c3 n4 hB
  by_cases hlt : k < 10
  ·have hlt' : (k : Int) < 10 := by omega
   obtain ⟨n, hn⟩ : ∃ n, n = k + m := ⟨_, rfl⟩
   obtain ⟨n1, hn1⟩ : ∃ n1, n1 = k + m + 1 := ⟨_, rfl⟩
   obtain ⟨c, hc⟩ : ∃ c, c = 64 - s := ⟨_, rfl⟩
   have r1 : IntKind.i64.wrap ((k : Int) + m) = (n : Nat) := by rw [IntKind.wrap_i64]; omega
   have r2 : IntKind.i64.wrap ((n : Int) + 1) = (n1 : Nat) := by rw [IntKind.wrap_i64]; omega
   have r3 : IntKind.i64.wrap (64 - (s : Int)) = (c : Nat) := by rw [IntKind.wrap_i64]; omega
   have HA0 := Lib.hid (fun w hp hg => above_num z n W.heap.size (W.heap.size + 1 + 1) HH.out.1 HH.out.2 (by omega) w hp hg)
   have HA1 := Lib.hid (fun w hp hg => above_num z n1 W.heap.size (W.heap.size + 1 + 1) HH.out.1 HH.out.2 (by omega) w hp hg)
   obtain ⟨hw1, hw2⟩ := half_word z (m := m) (s := s) (i := k) hs
   rw [← HT.out, ← hn1, ← hn, ← hc] at hw1
   rw [← hn, ← hc] at hw2
   have cf := N4.out.froz k
   have cc := N4.out.cell (mixL_get (z / 2 ^ t) 0 k hlt)
   rw [if_neg (by omega), wd_zero] at cc
   have hm' : (m : Int) < 10 := by omega
   have hs' : (s : Int) < 64 := by omega
   have x0 := wd_lo z n
   have x1 := wd_hi z n
   have y0 := wd_lo z n1
   have y1 := wd_hi z n1
   have hcb : (c : Int) ≤ 64 := by omega
   have hor := or_half (x := wd z n) (y := wd z n1) (s := s) (c := c) (by omega) x0 hw2 y0
   rw [← hw1] at hor
   clear hw1 hw2
   have HSET := Lib.hid (mixL_set (z / 2 ^ t) 0 hlt)
   clear hn hn1 hc
   generalize wd z n = x at *
   generalize wd z n1 = y at *
   generalize wd (z / 2 ^ t) k = v at *
   go_upto_region 8 with fail
   go_region_law (first
    | (go_simp; go_at_call 128; (with_reducible refine (HA0.out _ ?_ ?_).mono ?_); exact N1.out; exact C3.out; rintro e u1 ⟨rfl, rfl⟩)
    | (go_simp; go_at_call 128; (with_reducible refine (HA1.out _ ?_ ?_).mono ?_); exact N1.out; exact C3.out; rintro e u2 ⟨rfl, rfl⟩))
   all_goals
    try rw [hor]
    have NX := Lib.hid (N4.out.set k (.int .u64 v))
    rw [HSET.out] at NX
    have O1 : Hid (NumB W.heap.size (numL z) (wr.setCell ⟨W.heap.size + 1 + 1 + 1, k, none⟩ (.int .u64 v))) := N1.out.other (by omega)
    have O2 : Hid (NumB (W.heap.size + 1) zeroL (wr.setCell ⟨W.heap.size + 1 + 1 + 1, k, none⟩ (.int .u64 v))) := N2.out.other (by omega)
    have O3 : Hid ((wr.setCell ⟨W.heap.size + 1 + 1 + 1, k, none⟩ (.int .u64 v)).cell? ⟨W.heap.size + 1 + 1, 0, none⟩ = some (.int .u64 (if z < 0 then WB - 1 else 0))) := (World.cell?_setCell_other _ _ _ _ (by simp)).trans C3.out
    have OB : Hid (Below W.heap.size W (wr.setCell ⟨W.heap.size + 1 + 1 + 1, k, none⟩ (.int .u64 v))) := HB.out.setCell (p := ⟨W.heap.size + 1 + 1 + 1, k, none⟩) (show W.heap.size ≤ W.heap.size + 1 + 1 + 1 by omega) _
    clear N1 N2 C3 N4 HB HSET hor cf cc HA0 HA1 HH
    generalize wr.setCell ⟨W.heap.size + 1 + 1 + 1, k, none⟩ (.int .u64 v) = wx at *
    go_wp2_with fail
    go_roundw
    case rel => exact ⟨k + 1, by omega, by go_num, O1.out, O2.out, O3.out, NX.out, OB.out.drew⟩
    case measure => simp [intOf]; omega
  ·obtain rfl : k = 10 := by omega
   rw [mixL_ten] at N4
   have hrg := num_range N4.out
   have hsz10 : (Tryz.prog.info? 81).map (·.size) = some (numL (z / 2 ^ t)).length := by rw [info_numW, numL_len]
   have hst := store_num N2.out rfl (numL_len (z / 2 ^ t)) (numL_one (z / 2 ^ t))
   have hLZ := numL_len (z / 2 ^ t)
   have HSW : Hid (NumB (W.heap.size + 1) (numL (z / 2 ^ t)) (wr.setCells (W.heap.size + 1) 0 (numL (z / 2 ^ t)))) := setCells_whole (cs := zeroL.toArray) (numL (z / 2 ^ t)) rfl N2.out
   have HXB : Hid (Below W.heap.size W (wr.setCells (W.heap.size + 1) 0 (numL (z / 2 ^ t)))) := below_setCells _ (by omega) _ _ _ HB.out
   obtain ⟨lz, hlz⟩ : ∃ lz, lz = numL (z / 2 ^ t) := ⟨_, rfl⟩
   rw [← hlz] at hrg hsz10 hst hLZ HSW HXB
   have HLE := Lib.hid hlz
   clear hlz HH C3 N1 N4 HB
   generalize (if z < 0 then WB - 1 else 0) = sg at *
   go_wp2_with (refine wpList_load_mid rfl _ _ rfl (W.heap.size + 1 + 1 + 1) 0 rfl lz _ hrg Tryz.underlying81 rfl hsz10 ?_)
   refine bodyPost_ret (results_num rfl _ _ (W.heap.size + 1) lz hLZ rfl HSW.out) rfl ?_
   exact ⟨by rw [HLE.out], HXB.out⟩
end Go.Proofs.YtofmjkgaaphnkaaGreatDoor
/- IntRef: The contracts of the reference's trim, text and Made. -/
namespace Go.Proofs.YtofmjkgaaphnkaaGreatDoor
open Go.RowKit Putlog

/-- A list without its zeros in front, as a beginning. -/
theorem trimL_take (l : List Nat) : trimL l = l.take (trimL l).length := by
 suffices h : ∀ n (l : List Nat), l.length ≤ n → trimL l = l.take (trimL l).length from h _ l (Nat.le_refl _)
 intro n
 induction n with
 | zero => intro l hl; have : l = [] := List.length_eq_zero_iff.1 (by omega); subst this; rfl
 | succ n ih =>
  intro l hl
  rcases norm_cases l with rfl | ⟨r, x, rfl⟩
  ·rfl
  ·by_cases h : x = 0
   ·subst h
    rw [trimL_zero]
    have h1 := ih r (by simp at hl; omega)
    have h2 : (trimL r).length ≤ r.length := by rw [h1]; simp; omega
    rw [List.take_append_of_le_length h2]
    exact h1
   ·rw [trimL_keep h, List.take_length]
theorem trimL_le (l : List Nat) : (trimL l).length ≤ l.length := by rw [trimL_take l]; simp; omega
theorem take_getD (l : List Nat) {k j : Nat} (h : j < k) : (l.take k).getD j 0 = l.getD j 0 := by
 simp [List.getD_eq_getElem?_getD, h]
theorem trim_step {l : List Nat} {k : Nat} (hk : k < l.length) : (l.getD k 0 = 0 → trimL (l.take (k + 1)) = trimL (l.take k)) ∧ (l.getD k 0 ≠ 0 → trimL (l.take (k + 1)) = l.take (k + 1)) := by
 have e : l.take (k + 1) = l.take k ++ [l.getD k 0] := by
  rw [List.take_succ_eq_append_getElem hk]; simp [List.getD_eq_getElem?_getD, hk]
 rw [e]
 exact ⟨fun h => by rw [h, trimL_zero], fun h => trimL_keep h⟩

theorem NumsAt.take {w : World} {a : Option Addr} {c : Nat} {l : List Nat} (h : NumsAt w (.slice a l.length c) l) {k : Nat} (hk : k ≤ l.length) : NumsAt w (.slice a k c) (l.take k) := by
 obtain ⟨a', c', e, h2, h3, h4⟩ := h
 cases e
 have hl : (l.take k).length = k := by simp; omega
 refine ⟨a, c, by rw [hl], by omega, h3, ?_⟩
 rcases h4 with h4 | ⟨g, h5, h6⟩
 ·exact .inl h4
 ·exact .inr ⟨g, h5, fun j hj => by rw [take_getD l (by omega)]; exact h6 j (by omega)⟩
theorem NumsAt.addr {w : World} {a : Option Addr} {c : Nat} {l : List Nat} (h : NumsAt w (.slice a l.length c) l) : l.length ≤ c ∧ (c : Int) ≤ 9223372036854775807 ∧ (0 < l.length → ∃ g, a = some ⟨g, 0, none⟩ ∧ ∀ j, j < l.length → w.cell? ⟨g, j, none⟩ = some (.int .i64 (l.getD j 0 : Nat))) := by
 obtain ⟨a', c', e, h2, h3, h4⟩ := h
 cases e
 refine ⟨h2, h3, fun h0 => ?_⟩
 rcases h4 with ⟨_, h4⟩ | h4
 ·omega
 ·exact h4

/-- The bytes of a text, its sign first. -/
def signT (neg : Bool) : List UInt8 := if neg = true then [45] else []
def txt (neg : Bool) (l : List Nat) (k : Nat) : List UInt8 := signT neg ++ (l.reverse.take k).map chr10
theorem txt_succ (neg : Bool) (l : List Nat) {k : Nat} (h : k < l.length) : txt neg l k ++ [chr10 (l.getD (l.length - 1 - k) 0)] = txt neg l (k + 1) := by
 unfold txt
 rw [List.take_succ_eq_append_getElem (by simpa using h), List.map_append, List.append_assoc]
 congr 2
 simp [List.getD_eq_getElem?_getD, show l.length - 1 - k < l.length by omega]
theorem txt_zero (neg : Bool) (l : List Nat) : txt neg l 0 = signT neg := by simp [txt]
theorem txt_len (neg : Bool) (l : List Nat) {k : Nat} (h : k ≤ l.length) : (txt neg l k).length = (signT neg).length + k := by
 simp [txt]; omega
theorem signT_len (neg : Bool) : (signT neg).length ≤ 1 := by cases neg <;> simp [signT]
/-- The number of a sign and digits. -/
def sgn (neg : Bool) (n : Nat) : Int := if neg = true then -(n : Int) else n
theorem txt_all (neg : Bool) {l : List Nat} (hd : DigB 10 l) (hn : Norm l) (h0 : l ≠ []) : txt neg l l.length = intT (sgn neg (leV 10 l)) := by
 have hp := leV_pos (B := 10) (by decide) hn h0
 have hnat : natT (leV 10 l) = l.reverse.map chr10 := by
  unfold natT
  rw [if_neg (by omega), digsL_leV (by decide) hd hn]
 have ht : txt neg l l.length = signT neg ++ l.reverse.map chr10 := by
  unfold txt; rw [List.take_of_length_le (by simp)]
 rw [ht]
 unfold intT sgn signT
 cases neg with
 | true =>
  rw [if_pos rfl, if_pos rfl, if_pos (by omega)]
  rw [show (-(leV 10 l : Int)).natAbs = leV 10 l by omega, hnat]; rfl
 | false =>
  have h1 : ¬ ((leV 10 l : Int) < 0) := by omega
  simp only [Bool.false_eq_true, if_false, h1, Int.natAbs_natCast, hnat]
  rfl

set_option maxRecDepth 100000 in
set_option maxHeartbeats 2000000 in
theorem rtext_any (neg : Bool) (l : List Nat) (hl : l.length ≤ 50000) (hd : DigB 10 l) (hn : Norm l) (v : Value) (w : World) (hv : NumsAt w v l) :
  Calls Tryz.prog 68 #[.bool neg, v] w fun e w' => e = .returned (.tuple #[.string (intB (sgn neg (leV 10 l))), .bool (decide ((l.length : Int) ≤ 200))]) ∧ Below w.heap.size w w' := by
 obtain ⟨a, c, rfl, hv2⟩ : ∃ a c, v = .slice a l.length c ∧ NumsAt w (.slice a l.length c) l := by
  obtain ⟨a, c, e, r⟩ := hv
  exact ⟨a, c, e, a, c, rfl, r⟩
 obtain ⟨hc1, hc2, hc3⟩ := hv2.addr
 by_cases h0 : l = []
 ·subst h0
  have hz : Hid (intB (sgn neg (leV 10 [])) = ⟨#[48]⟩) := by show _ = _; cases neg <;> rfl
  clear hv hv2 hc3 hd hn
  go_enter Tryz.func68, Tryz.ntmps68
  go_wp2_with fail
  go_ret2
  exact ⟨by rw [hz.out]; rfl, Below.refl _ _⟩
 ·obtain ⟨i0, hi0, hz0, hz1, hz2⟩ := info_parts info_byte
  have HI0 := Lib.hid hi0
  have HZ0 := Lib.hid hz0
  have HZ1 := Lib.hid hz1
  have HZ2 := Lib.hid hz2
  clear hi0 hz0 hz1 hz2
  have hlp : 0 < l.length := List.length_pos_iff.2 h0
  obtain ⟨g, rfl, hcell⟩ := hc3 hlp
  have hta := txt_all neg hd hn h0
  have HR : Hid ((⟨(txt neg l l.length).toArray⟩ : ByteArray) = intB (sgn neg (leV 10 l))) := by show _ = _; rw [hta]; rfl
  have HC := Lib.hid hcell
  have HD := Lib.hid hd
  obtain ⟨R, hR⟩ : ∃ R, R = intB (sgn neg (leV 10 l)) := ⟨_, rfl⟩
  rw [← hR] at HR ⊢
  obtain ⟨n, hn2⟩ : ∃ n, n = l.length := ⟨_, rfl⟩
  rw [← hn2] at hlp hc1 ⊢
  have HN := Lib.hid hn2
  have hlb : (n : Int) ≤ 50000 := by omega
  have hn0 : ((n : Int) == 0) = false := by simp; omega
  clear hv hv2 hc3 hcell hta hd hn h0 hR hn2 hl
  have HS := Lib.hid (signT_len neg)
  have HT0 := Lib.hid (txt_zero neg l)
  cases neg with
  | true =>
   go_enter Tryz.func68, Tryz.ntmps68
   go_wp2_with (at_builtin; refine wpList_append_own _ rfl _ _ 121 rfl w.heap.size 5 i0 (.int .u8 0) 1 1 Tryz.underlying121 HI0.out HZ0.out HZ1.out HZ2.out rfl (by decide) (.slice none 0 0) 0 [] (by rfl) (World.ownsRow_nil _ _ _ _) ⟨w.heap.size, 0, none⟩ 1 1 [.int .u8 45] (by rfl) rfl (news_val _ _ _) (one_int _ _) (by decide) (by decide) (by simp) ?_; intro v' w3 hown3 hgrow3 _)
   have HST : Hid (w3.ownsRow w.heap.size 5 1 v' (txt true l 0).length (u8l (txt true l 0)) ∧ Below w.heap.size w w3) := by
    show _ ∧ _
    rw [HT0.out]
    exact ⟨hown3, belowGrown (e := 5) (size := 1) ((Below.refl w.heap.size w).alloc (Nat.le_refl _) _) (World.ownsRow_nil _ _ _ _) hgrow3⟩
   clear hown3 hgrow3
   go_loopw [6, 7] (fun v i wr => ∃ k : Nat, k ≤ n ∧ i = .int .i64 ((n : Int) - 1 - k) ∧ wr.ownsRow w.heap.size 5 1 v (txt true l k).length (u8l (txt true l k)) ∧ Below w.heap.size w wr) (fun _ i _ => (1 + intOf i).toNat)
   case atStart => exact ⟨0, by omega, by go_num, HST.out.1, HST.out.2⟩
   case round =>
    clear HST
    obtain ⟨k, hk, rfl, hown, hB⟩ := hrel
    have HO := Lib.hid hown
    have HB := Lib.hid hB
    clear hown hB
    by_cases hlt : k < n
    ·have hcx := keptBelow HB.out (HC.out (n - 1 - k) (by have := HN.out; omega))
     have hd := HD.out (l.getD (n - 1 - k) 0) (by
      rw [List.getD_eq_getElem?_getD, List.getElem?_eq_getElem (by have := HN.out; omega), Option.getD_some]; exact List.getElem_mem _)
     have hst := txt_succ true l (k := k) (by have := HN.out; omega)
     rw [← HN.out] at hst
     have hlen := txt_len true l (k := k) (by have := HN.out; omega)
     have hy := chr10_toNat hd
     have HK : Hid ((txt true l k).length ≤ 100000) := by show _ ≤ _; rw [hlen]; have := HS.out; omega
     have i0' : 0 ≤ (n : Int) - 1 - k := by omega
     have i1' : (n : Int) - 1 - k < n := by omega
     have i2' : ((n : Int) - 1 - k).toNat = n - 1 - k := by omega
     generalize txt true l k = y at *
     generalize l.getD (n - 1 - k) 0 = x at *
     generalize chr10 x = b at *
     have hy2 : (48 : Int) + (x : Int) = (b.toNat : Nat) := by omega
     have hyb : (b.toNat : Int) ≤ 57 := by omega
     have HSU := Lib.hid hst
     clear hst hlen hy
     go_wp2_with (at_builtin; refine wpList_append_own _ rfl _ _ 121 rfl w.heap.size 5 i0 (.int .u8 0) 1 1 Tryz.underlying121 HI0.out HZ0.out HZ1.out HZ2.out rfl (by decide) u6 y.length (u8l y) (by rfl) (HO.out.alloc _) ⟨wr.heap.size, 0, none⟩ 1 1 [.int .u8 (b.toNat : Nat)] (by rfl) rfl (news_val _ _ _) (one_int _ _) (app_b1 HK.out) (app_b2 HK.out (by decide)) (app_b3 HB.out) ?_; intro v2 w9 hown9 hgrow9 _)
     have HF := Lib.hid (app_u8 (b := b) HO.out HB.out hown9 hgrow9)
     rw [HSU.out] at HF
     clear hown9 hgrow9
     go_wp2_with fail
     go_roundw
     case rel => exact ⟨k + 1, by omega, by go_num, HF.out.1, HF.out.2⟩
     case measure => simp [intOf]; omega
    ·have hkn : k = n := by omega
     subst hkn
     have hlen := txt_len true l (k := k) (by have := HN.out; omega)
     have hlen0 : 0 < (txt true l k).length := by omega
     obtain ⟨g3, c3, rfl, hcs⟩ := owns_u8 HO.out hlen0
     have hcv := convB wr g3 c3 _ hcs
     have hRR := HR.out
     rw [← HN.out] at hRR
     rw [hRR] at hcv
     have hll : (txt true l k).length ≤ 60000 := by rw [hlen]; have := HS.out; omega
     generalize (txt true l k).length = L at *
     have hneg : ((k : Int) - 1 - k) < 0 := by omega
     clear hcs hlt hRR hlen hlen0 HO
     go_wp2_with fail
     go_ret2
     exact ⟨rfl, HB.out⟩
  | false =>
   go_enter Tryz.func68, Tryz.ntmps68
   go_wp2_with fail
   have HST : Hid (w.ownsRow w.heap.size 5 1 (.slice none 0 0) (txt false l 0).length (u8l (txt false l 0)) ∧ Below w.heap.size w w) := by
    show _ ∧ _
    rw [HT0.out]
    exact ⟨World.ownsRow_nil _ _ _ _, Below.refl _ _⟩
   go_loopw [6, 7] (fun v i wr => ∃ k : Nat, k ≤ n ∧ i = .int .i64 ((n : Int) - 1 - k) ∧ wr.ownsRow w.heap.size 5 1 v (txt false l k).length (u8l (txt false l k)) ∧ Below w.heap.size w wr) (fun _ i _ => (1 + intOf i).toNat)
   case atStart => exact ⟨0, by omega, by go_num, HST.out.1, HST.out.2⟩
   case round =>
    clear HST
    obtain ⟨k, hk, rfl, hown, hB⟩ := hrel
    have HO := Lib.hid hown
    have HB := Lib.hid hB
    clear hown hB
    by_cases hlt : k < n
    ·have hcx := keptBelow HB.out (HC.out (n - 1 - k) (by have := HN.out; omega))
     have hd := HD.out (l.getD (n - 1 - k) 0) (by
      rw [List.getD_eq_getElem?_getD, List.getElem?_eq_getElem (by have := HN.out; omega), Option.getD_some]; exact List.getElem_mem _)
     have hst := txt_succ false l (k := k) (by have := HN.out; omega)
     rw [← HN.out] at hst
     have hlen := txt_len false l (k := k) (by have := HN.out; omega)
     have hy := chr10_toNat hd
     have HK : Hid ((txt false l k).length ≤ 100000) := by show _ ≤ _; rw [hlen]; have := HS.out; omega
     have i0' : 0 ≤ (n : Int) - 1 - k := by omega
     have i1' : (n : Int) - 1 - k < n := by omega
     have i2' : ((n : Int) - 1 - k).toNat = n - 1 - k := by omega
     generalize txt false l k = y at *
     generalize l.getD (n - 1 - k) 0 = x at *
     generalize chr10 x = b at *
     have hy2 : (48 : Int) + (x : Int) = (b.toNat : Nat) := by omega
     have hyb : (b.toNat : Int) ≤ 57 := by omega
     have HSU := Lib.hid hst
     clear hst hlen hy
     go_wp2_with (at_builtin; refine wpList_append_own _ rfl _ _ 121 rfl w.heap.size 5 i0 (.int .u8 0) 1 1 Tryz.underlying121 HI0.out HZ0.out HZ1.out HZ2.out rfl (by decide) u6 y.length (u8l y) (by rfl) (HO.out.alloc _) ⟨wr.heap.size, 0, none⟩ 1 1 [.int .u8 (b.toNat : Nat)] (by rfl) rfl (news_val _ _ _) (one_int _ _) (app_b1 HK.out) (app_b2 HK.out (by decide)) (app_b3 HB.out) ?_; intro v2 w9 hown9 hgrow9 _)
     have HF := Lib.hid (app_u8 (b := b) HO.out HB.out hown9 hgrow9)
     rw [HSU.out] at HF
     clear hown9 hgrow9
     go_wp2_with fail
     go_roundw
     case rel => exact ⟨k + 1, by omega, by go_num, HF.out.1, HF.out.2⟩
     case measure => simp [intOf]; omega
    ·have hkn : k = n := by omega
     subst hkn
     have hlen := txt_len false l (k := k) (by have := HN.out; omega)
     have hlen0 : 0 < (txt false l k).length := by omega
     obtain ⟨g3, c3, rfl, hcs⟩ := owns_u8 HO.out hlen0
     have hcv := convB wr g3 c3 _ hcs
     have hRR := HR.out
     rw [← HN.out] at hRR
     rw [hRR] at hcv
     have hll : (txt false l k).length ≤ 60000 := by rw [hlen]; have := HS.out; omega
     generalize (txt false l k).length = L at *
     have hneg : ((k : Int) - 1 - k) < 0 := by omega
     clear hcs hlt hRR hlen hlen0 HO
     go_wp2_with fail
     go_ret2
     exact ⟨rfl, HB.out⟩
end Go.Proofs.YtofmjkgaaphnkaaGreatDoor
/- IntMag: Plain mathematics of layer 3: columns and carries, quotients and roots in groups of four digits. Nothing of the program. -/
namespace Putlog

/-- The number of columns, each times its power of the base. -/
def colV : List Int → Int
 | [] => 0
 | x :: l => x + 10000 * colV l
theorem colV_set : ∀ (l : List Int) (i : Nat) (v : Int), i < l.length → colV (l.set i v) = colV l + 10000 ^ i * (v - l.getD i 0)
 | [], _, _, h => by simp at h
 | x :: l, 0, v, _ => by simp [colV]; omega
 | x :: l, i + 1, v, h => by
  have := colV_set l i v (by simpa using h)
  simp only [List.set_cons_succ, colV, this, List.getD_cons_succ, Int.pow_succ]
  rw [Int.mul_add, Int.mul_comm (10000 ^ i) 10000, Int.mul_assoc]; omega
theorem colV_nat : ∀ l : List Nat, colV (l.map fun x : Nat => (x : Int)) = (leV 10000 l : Nat)
 | [] => rfl
 | x :: l => by simp only [List.map_cons, colV, leV, colV_nat l]; omega
theorem colV_zeros (n : Nat) : colV (List.replicate n 0) = 0 := by
 induction n with
 | zero => rfl
 | succ n ih => rw [List.replicate_succ, colV, ih]; rfl
/-- The groups and the carry of columns. -/
def carryO : Int → List Int → Int
 | c, [] => c
 | c, x :: l => carryO ((c + x) / 10000) l
def carryG : Int → List Int → List Nat
 | _, [] => []
 | c, x :: l => ((c + x) % 10000).toNat :: carryG ((c + x) / 10000) l
theorem carry_val : ∀ (l : List Int) (c : Int), c + colV l = (leV 10000 (carryG c l) : Nat) + 10000 ^ l.length * carryO c l
 | [], c => by simp [colV, carryG, carryO, leV]
 | x :: l, c => by
  have h := carry_val l ((c + x) / 10000)
  simp only [colV, carryG, carryO, leV, List.length_cons, Int.pow_succ]
  rw [Int.mul_comm (10000 ^ l.length) 10000, Int.mul_assoc]
  have h1 : ((((c + x) % 10000).toNat : Nat) : Int) = (c + x) % 10000 := Int.toNat_of_nonneg (Int.emod_nonneg _ (by decide))
  rw [Int.natCast_add, h1, Int.natCast_mul]
  have h2 := Int.mul_ediv_add_emod (c + x) 10000
  generalize (10000 : Int) ^ l.length * carryO ((c + x) / 10000) l = y at *
  generalize colV l = z at *
  omega
theorem carryG_dig : ∀ (l : List Int) (c : Int), DigB 10000 (carryG c l)
 | [], _ => DigB.nil _
 | x :: l, c => DigB.cons (by have := Int.emod_lt_of_pos (c + x) (show (0 : Int) < 10000 by decide); have := Int.emod_nonneg (c + x) (show (10000 : Int) ≠ 0 by decide); omega) (carryG_dig l _)
theorem carryG_len : ∀ (l : List Int) (c : Int), (carryG c l).length = l.length
 | [], _ => rfl
 | x :: l, c => by simp [carryG, carryG_len l]
theorem carryO_snoc : ∀ (l : List Int) (c x : Int), carryO c (l ++ [x]) = (carryO c l + x) / 10000
 | [], c, x => rfl
 | y :: l, c, x => by simp only [List.cons_append, carryO]; exact carryO_snoc l _ x
theorem carryG_snoc : ∀ (l : List Int) (c x : Int), carryG c (l ++ [x]) = carryG c l ++ [((carryO c l + x) % 10000).toNat]
 | [], c, x => rfl
 | y :: l, c, x => by simp only [List.cons_append, carryG, carryO]; rw [carryG_snoc l _ x]
def Bnd (M : Int) (l : List Int) : Prop := ∀ x ∈ l, -M ≤ x ∧ x ≤ M
theorem carryO_bound (M : Int) (hM : 1 ≤ M) : ∀ (l : List Int) (c : Int), Bnd M l → -M ≤ c → c ≤ M → -M ≤ carryO c l ∧ carryO c l ≤ M
 | [], c, _, h1, h2 => ⟨h1, h2⟩
 | x :: l, c, hb, h1, h2 => by
  have hx := hb x (List.mem_cons_self ..)
  refine carryO_bound M hM l _ (fun y hy => hb y (List.mem_cons_of_mem _ hy)) ?_ ?_ <;> omega
theorem pow_cast (n : Nat) : ((10000 ^ n : Nat) : Int) = 10000 ^ n := by simp
/-- The groups of columns whose number has at most one group more. -/
theorem carried_spec (l : List Int) (h0 : 0 ≤ colV l) (h1 : colV l < 10000 ^ (l.length + 1)) :
  0 ≤ carryO 0 l ∧ carryO 0 l < 10000 ∧ trimL (carryG 0 l ++ [(carryO 0 l).toNat]) = digsL 10000 (colV l).toNat := by
 have hv := carry_val l 0
 have hd := carryG_dig l 0
 have hlt := leV_lt hd
 rw [carryG_len] at hlt
 have hlt' : ((leV 10000 (carryG 0 l) : Nat) : Int) < 10000 ^ l.length := by rw [← pow_cast]; omega
 rw [Int.pow_succ] at h1
 have hp : (0 : Int) < 10000 ^ l.length := by rw [← pow_cast]; have : 0 < 10000 ^ l.length := Nat.pow_pos (by decide); omega
 have hco : 0 ≤ carryO 0 l ∧ carryO 0 l < 10000 := by
  constructor
  ·refine Int.not_lt.1 fun hn => ?_
   have : (10000 : Int) ^ l.length * carryO 0 l ≤ 10000 ^ l.length * (-1) := Int.mul_le_mul_of_nonneg_left (by omega) (by omega)
   omega
  ·refine Int.not_le.1 fun hn => ?_
   have : (10000 : Int) ^ l.length * 10000 ≤ 10000 ^ l.length * carryO 0 l := Int.mul_le_mul_of_nonneg_left (by omega) (by omega)
   omega
 refine ⟨hco.1, hco.2, ?_⟩
 have hd2 : DigB 10000 (carryG 0 l ++ [(carryO 0 l).toNat]) := hd.append (DigB.cons (by omega) (DigB.nil _))
 have hval : leV 10000 (trimL (carryG 0 l ++ [(carryO 0 l).toNat])) = (colV l).toNat := by
  rw [trimL_val, leV_snoc, carryG_len]
  have : ((10000 ^ l.length * (carryO 0 l).toNat : Nat) : Int) = 10000 ^ l.length * carryO 0 l := by
   rw [Int.natCast_mul, pow_cast, Int.toNat_of_nonneg hco.1]
  omega
 rw [← hval, digsL_leV (by decide) (trimL_dig hd2) (trimL_norm _)]

theorem leV_drop {B : Nat} (hB : 2 ≤ B) {l : List Nat} (hd : DigB B l) (k : Nat) (hk : k ≤ l.length) : leV B (l.drop k) = leV B l / B ^ k := by
 have h := leV_append B (l.take k) (l.drop k)
 rw [List.take_append_drop] at h
 have h1 : DigB B (l.take k) := fun x hx => hd x (List.mem_of_mem_take hx)
 have h2 := leV_lt h1
 have h3 : (l.take k).length = k := by simp; omega
 rw [h3] at h h2
 rw [h, Nat.add_mul_div_left _ _ (Nat.pow_pos (by omega)), Nat.div_eq_of_lt h2, Nat.zero_add]
theorem leV_take {B : Nat} (_hB : 2 ≤ B) {l : List Nat} (hd : DigB B l) (k : Nat) (hk : k ≤ l.length) : leV B (l.take k) = leV B l % B ^ k := by
 have h := leV_append B (l.take k) (l.drop k)
 rw [List.take_append_drop] at h
 have h1 : DigB B (l.take k) := fun x hx => hd x (List.mem_of_mem_take hx)
 have h2 := leV_lt h1
 have h3 : (l.take k).length = k := by simp; omega
 rw [h3] at h h2
 rw [h, Nat.add_mul_mod_self_left, Nat.mod_eq_of_lt h2]
theorem leV_set (B : Nat) : ∀ (l : List Nat) (i v : Nat), i < l.length → l.getD i 0 = 0 → leV B (l.set i v) = leV B l + B ^ i * v
 | [], _, _, h, _ => by simp at h
 | x :: l, 0, v, _, h0 => by
  have : x = 0 := by simpa using h0
  subst this; simp [leV]; omega
 | x :: l, i + 1, v, h, h0 => by
  have := leV_set B l i v (by simpa using h) (by simpa using h0)
  simp only [List.set_cons_succ, leV, this, Nat.pow_succ]
  rw [Nat.mul_add, Nat.mul_comm (B ^ i) B, Nat.mul_assoc]; omega
/-- What the uppermost groups leave open. -/
theorem group_bounds {A B K : Nat} (hK : 0 < K) (hB : 1 ≤ B / K) : A / K / (B / K + 1) ≤ A / B ∧ A / B ≤ A / K / (B / K) := by
 have hB0 : 0 < B := by
  rcases Nat.eq_zero_or_pos B with h | h
  ·subst h; simp at hB
  ·exact h
 have a1 : A / K * K ≤ A := Nat.div_mul_le_self A K
 have b1 : B / K * K ≤ B := Nat.div_mul_le_self B K
 have b2 : B < (B / K + 1) * K := by
  have := Nat.lt_div_mul_add hK (a := B); rw [Nat.add_mul]; omega
 constructor
 ·refine (Nat.le_div_iff_mul_le hB0).2 ?_
  have h1 : A / K / (B / K + 1) * (B / K + 1) ≤ A / K := Nat.div_mul_le_self _ _
  calc A / K / (B / K + 1) * B ≤ A / K / (B / K + 1) * ((B / K + 1) * K) := Nat.mul_le_mul_left _ (by omega)
   _ = A / K / (B / K + 1) * (B / K + 1) * K := by rw [Nat.mul_assoc]
   _ ≤ A / K * K := Nat.mul_le_mul_right _ h1
   _ ≤ A := a1
 ·refine (Nat.le_div_iff_mul_le (by omega)).2 ?_
  refine (Nat.le_div_iff_mul_le hK).2 ?_
  have h1 : A / B * B ≤ A := Nat.div_mul_le_self _ _
  calc A / B * (B / K) * K = A / B * (B / K * K) := by rw [Nat.mul_assoc]
   _ ≤ A / B * B := Nat.mul_le_mul_left _ b1
   _ ≤ A := h1
/-- The first number of which a test holds that stays true. -/
def Firsts (p : Nat → Bool) (n r : Nat) : Prop := r ≤ n ∧ (r = 0 ∨ p (r - 1) = false) ∧ (r = n ∨ p r = true)
theorem group_found {A B least most r : Nat} (hB : 0 < B) (h1 : least ≤ A / B) (h2 : A / B ≤ most) (hr : Firsts (fun m => decide (A < B * (least + m + 1))) (most - least) r) : least + r = A / B := by
 obtain ⟨h3, h4, h5⟩ := hr
 have up : (A / B + 1) * B > A := by have := Nat.lt_div_mul_add hB (a := A); rw [Nat.add_mul]; omega
 rcases Nat.lt_trichotomy (least + r) (A / B) with h | h | h
 ·exfalso
  rcases h5 with h5 | h5
  ·omega
  ·have h6 : A < B * (least + r + 1) := by simpa using h5
   have h7 : (least + r + 1) * B ≤ A := (Nat.le_div_iff_mul_le hB).1 (by omega)
   rw [Nat.mul_comm] at h7; omega
 ·exact h
 ·exfalso
  rcases h4 with h4 | h4
  ·omega
  ·have h6 : B * (least + (r - 1) + 1) ≤ A := by simpa using h4
   have h7 : least + (r - 1) + 1 ≤ A / B := (Nat.le_div_iff_mul_le hB).2 (by rw [Nat.mul_comm]; exact h6)
   omega
/-- One step of the long division. -/
theorem long_step {R b P : Nat} (hP : 0 < P) (hb : 0 < b) (hR : R < b * (P * 10000)) :
  R / P / b < 10000 ∧ R = R % P + P * (R / P % b) + P * (R / P / b) * b ∧ R % P + P * (R / P % b) < b * P := by
 have h1 : R / P < b * 10000 := (Nat.div_lt_iff_lt_mul hP).2 (by rw [Nat.mul_assoc, Nat.mul_comm 10000 P]; exact hR)
 have h2 : R / P / b < 10000 := (Nat.div_lt_iff_lt_mul hb).2 (by rw [Nat.mul_comm]; exact h1)
 have h3 := Nat.div_add_mod R P
 have h4 := Nat.div_add_mod (R / P) b
 have h5 := Nat.mod_lt R hP
 have h6 := Nat.mod_lt (R / P) hb
 refine ⟨h2, ?_, ?_⟩
 ·have : P * (R / P) = P * (b * (R / P / b)) + P * (R / P % b) := by rw [← Nat.mul_add, h4]
  rw [Nat.mul_assoc P, Nat.mul_comm (R / P / b) b]; omega
 ·have : P * (R / P % b + 1) ≤ P * b := Nat.mul_le_mul_left _ h6
  rw [Nat.mul_comm b P]; rw [Nat.mul_add] at this; omega
end Putlog
/- IntMem: Magnitudes in memory: slices of groups that are read, rows of numbers that are written. -/
namespace Go.Proofs.YtofmjkgaaphnkaaGreatDoor
open Go.RowKit Putlog

/-- A list of numbers as values. -/
def vals (l : List Int) : List Value := l.map fun x => .int .i64 x
theorem vals_get {l : List Int} {j : Nat} (h : j < l.length) : (vals l)[j]? = some (.int .i64 (l.getD j 0)) := by simp [vals, List.getD_eq_getElem?_getD, h]
/-- The numbers of a list of natural ones. -/
def ofN (l : List Nat) : List Int := l.map fun x : Nat => (x : Int)
theorem ofN_len (l : List Nat) : (ofN l).length = l.length := by simp [ofN]
theorem ofN_get (l : List Nat) (j : Nat) : (ofN l).getD j 0 = (l.getD j 0 : Nat) := by
 simp only [ofN, List.getD_eq_getElem?_getD, List.getElem?_map]
 cases l[j]? <;> rfl
theorem vals_ofN (l : List Nat) : vals (ofN l) = i64l l := by simp [vals, ofN, i64l]
/-- The cells of an address hold these numbers. -/
def CellsAt (w : World) (a : Option Addr) (l : List Int) : Prop := l = [] ∨ ∃ g o, a = some ⟨g, o, none⟩ ∧ ∀ j, j < l.length → w.cell? ⟨g, o + j, none⟩ = some (.int .i64 (l.getD j 0))
theorem CellsAt.via {w w' : World} {a : Option Addr} {l : List Int} (hB : Below w.heap.size w w') (h : CellsAt w a l) : CellsAt w' a l := by
 rcases h with h | ⟨g, o, h1, h2⟩
 ·exact .inl h
 ·exact .inr ⟨g, o, h1, fun j hj => keptBelow hB (h2 j hj)⟩
/-- A slice that holds these numbers: of the length, with room. -/
def Room (n c : Nat) : Prop := n ≤ c ∧ (c : Int) ≤ 9223372036854775807
theorem Room.zero : Room 0 0 := ⟨Nat.le_refl _, by omega⟩
/-- A magnitude: a slice of groups. -/
def MagAt (w : World) (v : Value) (l : List Nat) : Prop := ∃ a c, v = .slice a l.length c ∧ Room l.length c ∧ CellsAt w a (ofN l)
theorem MagAt.via {w w' : World} {v : Value} {l : List Nat} (hB : Below w.heap.size w w') (h : MagAt w v l) : MagAt w' v l := by
 obtain ⟨a, c, h1, h2, h3⟩ := h
 exact ⟨a, c, h1, h2, h3.via hB⟩
/-- A magnitude in memory that lies behind the first blocks, at the head of a block. -/
def MagNew (w : World) (base : Nat) (v : Value) (l : List Nat) : Prop := ∃ g c, v = .slice (some ⟨g, 0, none⟩) l.length c ∧ base ≤ g ∧ Room l.length c ∧ ∀ j, j < l.length → w.cell? ⟨g, j, none⟩ = some (.int .i64 (l.getD j 0 : Nat))
theorem MagNew.mag {w : World} {base : Nat} {v : Value} {l : List Nat} (h : MagNew w base v l) : MagAt w v l := by
 obtain ⟨g, c, h1, _, h2, h3⟩ := h
 refine ⟨_, c, h1, h2, ?_⟩
 rcases Nat.eq_zero_or_pos l.length with h0 | h0
 ·exact .inl (List.length_eq_zero_iff.1 (by rw [ofN_len]; exact h0))
 ·exact .inr ⟨g, 0, rfl, fun j hj => by rw [Nat.zero_add, ofN_get]; rw [ofN_len] at hj; exact h3 j hj⟩
theorem MagNew.mono {w : World} {b b' : Nat} {v : Value} {l : List Nat} (h : MagNew w b v l) (hb : b' ≤ b) : MagNew w b' v l := by
 obtain ⟨g, c, h1, h2, h3⟩ := h
 exact ⟨g, c, h1, by omega, h3⟩
/-- A row that may be written. -/
def RowAt (w : World) (g : Nat) (C : List Int) : Prop := ∀ j, j < C.length → w.cell? ⟨g, j, none⟩ = some (.int .i64 (C.getD j 0)) ∧ w.frozen? ⟨g, j, none⟩ = false
theorem RowAt.cells {w : World} {g : Nat} {C : List Int} (h : RowAt w g C) : CellsAt w (some ⟨g, 0, none⟩) C := .inr ⟨g, 0, rfl, fun j hj => by rw [Nat.zero_add]; exact (h j hj).1⟩
theorem RowAt.via {w w' : World} {g : Nat} {C : List Int} (h : RowAt w g C) (hB : Below w.heap.size w w') : RowAt w' g C := fun j hj => by
 obtain ⟨h1, h2⟩ := h j hj
 refine ⟨keptBelow hB h1, ?_⟩
 have hlt := lt_of_cell h1
 have h3 := hB.block g hlt
 rw [← h2]
 simp only [World.frozen?, h3]
theorem getD_set (C : List Int) (i j : Nat) (x : Int) (hi : i < C.length) : (C.set i x).getD j 0 = if j = i then x else C.getD j 0 := by
 simp only [List.getD_eq_getElem?_getD, List.getElem?_set]
 by_cases h : i = j
 ·subst h; simp [hi]
 ·rw [if_neg h, if_neg (fun e => h e.symm)]
theorem RowAt.set {w : World} {g : Nat} {C : List Int} (h : RowAt w g C) (i : Nat) (hi : i < C.length) (x : Int) : RowAt (w.setCell ⟨g, i, none⟩ (.int .i64 x)) g (C.set i x) := fun j hj => by
 rw [List.length_set] at hj
 refine ⟨?_, by rw [World.frozen?_setCell]; exact (h j hj).2⟩
 rw [getD_set C i j x hi]
 by_cases e : j = i
 ·subst e
  rw [if_pos rfl]
  exact World.cell?_setCell_same' _ _ _ (by rw [(h j hj).1]; rfl)
 ·rw [if_neg e, World.cell?_setCell_other _ _ _ _ (fun h => e (by have := congrArg Addr.off h; simp at this; omega))]
  exact (h j hj).1
theorem below_set {B : Nat} {a w : World} (h : Below B a w) {g i : Nat} (hg : B ≤ g) (x : Value) : Below B a (w.setCell ⟨g, i, none⟩ x) := h.setCell (p := ⟨g, i, none⟩) hg x
/-- What an owned slice of numbers is. -/
theorem owns_row {w : World} {B : Nat} {t : TypeId} {v : Value} {C : List Int} (h : w.ownsRow B t 1 v C.length (vals C)) :
  (C = [] ∧ ∃ a c, v = .slice a 0 c ∧ Room 0 c) ∨ (0 < C.length ∧ ∃ g c, v = .slice (some ⟨g, 0, none⟩) C.length c ∧ Room C.length c ∧ B ≤ g ∧ RowAt w g C) := by
 rcases Nat.eq_zero_or_pos C.length with h0 | h0
 ·obtain ⟨a, c, h1, h2, h3, _⟩ := ownsRow_form h
  rw [h0] at h1 h2
  exact .inl ⟨List.length_eq_zero_iff.1 h0, a, c, h1, h2, h3⟩
 ·obtain ⟨e0, hv | ⟨g, cap, cur, hv, hg, hh, h1, h2, h3, h4⟩⟩ := h
  ·obtain ⟨h1, h2⟩ := hv; omega
  ·refine .inr ⟨h0, g, cap, hv, ⟨h1, by unfold maxLen at h2; omega⟩, hg, fun j hj => ⟨?_, by simp [World.frozen?, hh]⟩⟩
   rw [cell_of_row w g j cur _ (0, 0) hh]
   rw [Nat.mul_one] at h4 e0
   have h5 : (cur.toList.take C.length)[j]? = (vals C)[j]? := by rw [h4]
   rw [List.getElem?_take_of_lt hj, Array.getElem?_toList] at h5
   rw [h5, vals_get hj]
theorem bnd_set {M : Int} {C : List Int} (h : Bnd M C) (i : Nat) {x : Int} (h1 : -M ≤ x) (h2 : x ≤ M) : Bnd M (C.set i x) := fun y hy => by
 rcases List.mem_or_eq_of_mem_set hy with hy | hy
 ·exact h y hy
 ·subst hy; exact ⟨h1, h2⟩
theorem bnd_get {M : Int} {C : List Int} (h : Bnd M C) {j : Nat} (hj : j < C.length) : -M ≤ C.getD j 0 ∧ C.getD j 0 ≤ M := by
 rw [List.getD_eq_getElem?_getD, List.getElem?_eq_getElem hj, Option.getD_some]
 exact h _ (List.getElem_mem _)
theorem bnd_ofN {l : List Nat} (h : DigB 10000 l) : Bnd 9999 (ofN l) := fun x hx => by
 obtain ⟨n, hn, rfl⟩ := List.mem_map.1 hx
 have := h n hn; omega
theorem Bnd.mono {M N : Int} {C : List Int} (h : Bnd M C) (k : M ≤ N) : Bnd N C := fun x hx => by have := h x hx; omega
theorem digB_get {B : Nat} {l : List Nat} (h : DigB B l) {j : Nat} (hj : j < l.length) : l.getD j 0 < B := by
 rw [List.getD_eq_getElem?_getD, List.getElem?_eq_getElem hj, Option.getD_some]
 exact h _ (List.getElem_mem _)
end Go.Proofs.YtofmjkgaaphnkaaGreatDoor
/- IntTrim: The contract of trimmed. -/
namespace Go.Proofs.YtofmjkgaaphnkaaGreatDoor
open Go.RowKit Putlog

def ilen : Value → Nat
 | .int _ n => n.toNat
 | _ => 0
set_option maxRecDepth 100000 in
set_option maxHeartbeats 2000000 in
theorem trimmed_any (l : List Nat) (hl : l.length ≤ 100000) (a : Option Addr) (c : Nat) (w : World) (hr : Room l.length c) (hv : CellsAt w a (ofN l)) :
  Calls Tryz.prog 168 #[.slice a l.length c] w fun e w' => e = .returned (.slice a (trimL l).length c) ∧ w' = w := by
 obtain ⟨hc1, hc2⟩ := hr
 have HV := Lib.hid hv
 clear hv
 obtain ⟨n, hn⟩ : ∃ n, n = l.length := ⟨_, rfl⟩
 rw [← hn] at hl hc1 ⊢
 have HN := Lib.hid hn
 have hlb : (n : Int) ≤ 100000 := by omega
 clear hn
 go_enter Tryz.func168, Tryz.ntmps168
 go_wp2_with fail
 go_loop [3] (fun v => ∃ k : Nat, k ≤ n ∧ v = .int .i64 k ∧ trimL (l.take k) = trimL l) (fun v => ilen v)
 case atStart => exact ⟨n, Nat.le_refl _, rfl, by rw [HN.out, List.take_length]⟩
 case round =>
  obtain ⟨k, hk, rfl, ht⟩ := hrel
  have hkb : (k : Int) ≤ 100000 := by omega
  have hkc : (k : Int) ≤ c := by omega
  rcases Nat.eq_zero_or_pos k with rfl | h0
  ·have HT : Hid (trimL l = []) := by show trimL l = []; rw [← ht]; rfl
   clear ht
   go_wp2_with fail
   go_ret
   refine ⟨?_, rfl⟩
   rw [HT.out]; rfl
  ·obtain ⟨q, rfl⟩ : ∃ q, k = q + 1 := ⟨k - 1, by omega⟩
   obtain ⟨hs1, hs2⟩ := trim_step (l := l) (k := q) (by have := HN.out; omega)
   have hnil : ofN l ≠ [] := fun e => by
    have h1 : (ofN l).length = 0 := by rw [e]; rfl
    rw [ofN_len] at h1; have := HN.out; omega
   obtain ⟨g, o, rfl, hcell⟩ := HV.out.resolve_left hnil
   have hc := hcell q (by rw [ofN_len]; have := HN.out; omega)
   rw [ofN_get] at hc
   by_cases hx : l.getD q 0 = 0
   ·have HM : Hid (trimL (l.take q) = trimL l) := by show _ = _; rw [← hs1 hx]; exact ht
    rw [hx] at hc
    clear ht hs1 hs2 hx hcell hnil
    go_wp2_with fail
    go_round
    case rel => exact ⟨q, by omega, rfl, HM.out⟩
    case measure => simp [ilen]
   ·have HT : Hid (trimL l = l.take (q + 1)) := by show _ = _; rw [← ht]; exact hs2 hx
    have hxb : ((l.getD q 0 : Nat) : Int) ≠ 0 := by omega
    have hxe : (((l.getD q 0 : Nat) : Int) == 0) = false := by simpa using hxb
    generalize l.getD q 0 = x at *
    clear ht hs1 hs2 hcell hnil
    go_wp2_with fail
    go_ret
    refine ⟨?_, rfl⟩
    rw [HT.out]
    have : (l.take (q + 1)).length = q + 1 := by simp; have := HN.out; omega
    rw [this]; rfl
end Go.Proofs.YtofmjkgaaphnkaaGreatDoor
/- IntCarry: The contract of carried: its closure, the fold over it. -/
namespace Go.Proofs.YtofmjkgaaphnkaaGreatDoor
open Go.RowKit Putlog

/-- A captured slice: the block of the variable, and the slice that it holds, which the call owns. -/
def BoxOwn (w : World) (base Bx : Nat) (G : List Nat) : Prop := ∃ v, w.heap[Bx]? = some (.cells #[v] 135 (0, 0)) ∧ w.ownsRow base 3 1 v G.length (i64l G)
theorem emod_tmod (x : Int) : ((x.tmod 10000) + 10000).tmod 10000 = x % 10000 := by
 have h1 := Int.tmod_lt_of_pos x (show (0 : Int) < 10000 by decide)
 have h2 : -10000 < x.tmod 10000 := by have := Int.lt_tmod_of_pos x (show (0 : Int) < 10000 by decide); omega
 have h3 : (0 : Int) ≤ x.tmod 10000 + 10000 := by omega
 have h4 := Int.tmod_add_mul_tdiv x 10000
 rw [Int.tmod_eq_emod_of_nonneg h3, Int.add_emod_right]
 generalize x.tmod 10000 = t at *
 generalize x.tdiv 10000 = q at *
 omega
theorem app_b3' {w : World} {base Bx : Nat} {ob o : Obj} (h : w.heap[Bx]? = some ob) (hb : base ≤ Bx) : base ≤ (w.alloc o).heap.size := by have := lt_of_block h; simp; omega
/-- What an append to the captured slice leaves, and the store of its result. -/
theorem box_step {w w9 : World} {base Bx d : Nat} {G : List Nat} {v v2 : Value} {o : Obj} (hv : w.heap[Bx]? = some (.cells #[v] 135 (0, 0))) (hown : w.ownsRow base 3 1 v G.length (i64l G)) (hb : base ≤ Bx)
  (hown9 : w9.ownsRow base 3 1 v2 (G.length + 1) (i64l G ++ [.int .i64 (d : Nat)])) (hg : (w.alloc o).grownBy w9 v.ownBlock) :
  ∃ a2 c2, v2 = .slice a2 (G.length + 1) c2 ∧ w9.cell? ⟨Bx, 0, none⟩ = some v ∧ w9.frozen? ⟨Bx, 0, none⟩ = false ∧ BoxOwn (w9.setCell ⟨Bx, 0, none⟩ (.slice a2 (G.length + 1) c2)) base Bx (G ++ [d]) ∧ Below base w (w9.setCell ⟨Bx, 0, none⟩ (.slice a2 (G.length + 1) c2)) := by
 have hlt := lt_of_block hv
 have hvb : v.ownBlock ≠ some Bx := by
  intro e
  obtain ⟨_, ⟨rfl, _⟩ | ⟨g, cap, cur, rfl, hg, hh, _⟩⟩ := hown
  ·simp [Value.ownBlock] at e
  ·simp [Value.ownBlock] at e
   subst e
   rw [hh] at hv; simp at hv
 have hva : (w.alloc o).heap[Bx]? = some (.cells #[v] 135 (0, 0)) := by rw [← hv]; exact (Below.refl w.heap.size w).alloc (Nat.le_refl _) o |>.block Bx hlt
 have hv9 : w9.heap[Bx]? = some (.cells #[v] 135 (0, 0)) := (hg.block Bx (lt_of_block hva) (fun e => hvb e.symm)).trans hva
 obtain ⟨a2, c2, rfl, _⟩ := ownsRow_form hown9
 have hB9 : Below base w w9 := ((Below.refl base w).alloc (by omega) o).grown hg (by simp; try omega) (fun k e => by
  obtain ⟨_, ⟨rfl, _⟩ | ⟨g, cap, cur, rfl, hg2, hh, _⟩⟩ := hown
  ·simp [Value.ownBlock] at e
  ·simp [Value.ownBlock] at e; subst e; exact hg2)
 refine ⟨a2, c2, rfl, cell_of_one hv9, free_of_one hv9, ⟨_, one_setCell hv9, ?_⟩, hB9.setCell (p := ⟨Bx, 0, none⟩) hb _⟩
 rw [i64l_snoc, List.length_append]
 refine ownsRow_setCell_other hown9 (fun e => ?_) _
 obtain ⟨_, ⟨h, _⟩ | ⟨g, cap, cur, h, _, hh, _⟩⟩ := hown9
 ·cases h; try simp [Value.ownBlock] at e
 ·cases h
  simp [Value.ownBlock] at e
  subst e
  rw [hh] at hv9; simp at hv9
set_option maxRecDepth 100000 in
set_option maxHeartbeats 2000000 in
theorem carried1_any (base Bx : Nat) (G : List Nat) (cr x : Int) (w : World) (hG : G.length ≤ 50000) (hc : -1000000000000000 ≤ cr ∧ cr ≤ 1000000000000000) (hx : -1000000000000000 ≤ x ∧ x ≤ 1000000000000000) (hb : base ≤ Bx) (hbox : BoxOwn w base Bx G) :
  Calls Tryz.prog 173 #[.int .i64 cr, .int .i64 x, .pointer (some ⟨Bx, 0, none⟩)] w fun e w' => e = .returned (.int .i64 ((cr + x) / 10000)) ∧ BoxOwn w' base Bx (G ++ [((cr + x) % 10000).toNat]) ∧ Below base w w' := by
 obtain ⟨v, hv, hown⟩ := hbox
 obtain ⟨i0, hi0, hz0, hz1, hz2⟩ := info_parts info_int
 have HI0 := Lib.hid hi0
 have HZ0 := Lib.hid hz0
 have HZ1 := Lib.hid hz1
 have HZ2 := Lib.hid hz2
 have cB := cell_of_one hv
 have fB := free_of_one hv
 have HV := Lib.hid hv
 have HO := Lib.hid hown
 clear hi0 hz0 hz1 hz2 hv hown
 obtain ⟨s, hs⟩ : ∃ s, s = cr + x := ⟨_, rfl⟩
 obtain ⟨d, hd⟩ : ∃ d, d = (s % 10000).toNat := ⟨_, rfl⟩
 have h1 : (s.tmod 10000 + 10000).tmod 10000 = (d : Nat) := by rw [emod_tmod]; omega
 have h2 : (s - (d : Nat)).tdiv 10000 = s / 10000 := by
  have : s - (d : Nat) = s / 10000 * 10000 := by omega
  rw [this, Int.mul_tdiv_cancel _ (by decide)]
 have hs0 : cr + x = s := hs.symm
 obtain ⟨q, hq⟩ : ∃ q, q = s / 10000 := ⟨_, rfl⟩
 obtain ⟨t, ht⟩ : ∃ t, t = s.tmod 10000 := ⟨_, rfl⟩
 have ht1 := Int.tmod_lt_of_pos s (show (0 : Int) < 10000 by decide)
 have ht2 : -10000 < s.tmod 10000 := by have := Int.lt_tmod_of_pos s (show (0 : Int) < 10000 by decide); omega
 rw [hs0, ← hd, ← hq]
 rw [← ht] at h1 ht1 ht2
 rw [← hq] at h2
 have hd9 : (d : Int) < 10000 := by omega
 have ht0 : s.tmod 10000 = t := ht.symm
 have hsb : -2000000000000000 ≤ s ∧ s ≤ 2000000000000000 := by omega
 have hqb1 : -2000000000000000 ≤ q := by omega
 have hqb2 : q ≤ 2000000000000000 := by omega
 clear hs hd hq ht
 have HK : Hid (G.length ≤ 100000) := by show _ ≤ _; omega
 go_enter Tryz.func173, Tryz.ntmps173
 go_wp2_with (at_builtin; refine wpList_append_own _ rfl _ _ 135 rfl base 3 i0 (.int .i64 0) 1 8 Tryz.underlying135 HI0.out HZ0.out HZ1.out HZ2.out rfl (by decide) v G.length (i64l G) (by rfl) (HO.out.alloc _) ⟨w.heap.size, 0, none⟩ 1 1 [.int .i64 (d : Nat)] (by rfl) rfl (news_val _ _ _) (one_int _ _) (app_b1 HK.out) (app_b2 HK.out (by decide)) (app_b3' HV.out hb) ?_; intro v2 w9 hown9 hgrow9 _; obtain ⟨a2, c2, rfl, cB9, fB9, hX, hB9⟩ := box_step (d := d) HV.out HO.out hb hown9 hgrow9; have HX := Lib.hid hX; have HB9 := Lib.hid hB9; clear hown9 hgrow9 hX hB9)
 go_ret
 exact ⟨rfl, HX.out, HB9.out⟩
end Go.Proofs.YtofmjkgaaphnkaaGreatDoor
