/- The contracts of blocks and sum. -/
import Derived.Laws.BytesArg
import Derived.Deep.WholeRow
import Derived.Test.YtdhpighnkoamiaaDoorDigBlocks
import Derived.Test.YtdhpighnkoamiaaDoorDigMixed
import Derived.Test.YtdhpighnkoamiaaDoorDigTreePure
namespace Go.Proofs.YtdhpighnkoamiaaDoor
open Go.RowKit Go.Shelf Putlog
attribute [local go_sem] Oper.semAt_some

set_option maxHeartbeats 400000 in
theorem blocks_any (a : Option Addr) (m c : Nat) (w : World) :
    Calls Tryd.prog 54 #[.slice a m c] w fun e w' => e = .returned (.func (.func 60) #[] #[.pointer (some ⟨w.heap.size, 0, none⟩)]) ∧ w' = w.alloc (.cells #[.slice a m c] 26) := by
  go_enter Tryd.func54, Tryd.ntmps54
  go_wp2
  go_ret
  exact ⟨rfl, rfl⟩
theorem ivs : (#[.int .u32 1779033703, .int .u32 3144134277, .int .u32 1013904242, .int .u32 2773480762, .int .u32 1359893119, .int .u32 2600822924, .int .u32 528734635, .int .u32 1541459225] : Array Value) = u32s iv.list := rfl

theorem PartsAt.below {Bx b o m c : Nat} {ss : Nat → ByteArray} {A A' : World} {B : Nat} (h : PartsAt Bx b o m c ss A) (hB : Below B A A') (h1 : Bx < B) (h2 : b < B) : PartsAt Bx b o m c ss A' :=
  ⟨(hB.cell (p := ⟨Bx, 0, none⟩) h1).trans h.1, fun j hj => (hB.cell (p := ⟨b, o + j, none⟩) h2).trans (h.2 j hj)⟩

set_option maxRecDepth 100000 in
set_option maxHeartbeats 2000000 in
theorem sum_in (b o m c : Nat) (ss : Nat → ByteArray) (w : World) (hm : (m : Int) ≤ 1048576) (hb : b < w.heap.size) (hp : ∀ j, j < m → w.cell? ⟨b, o + j, none⟩ = some (.string (ss (o + j)))) (ht : ((cat ss o m).length : Int) ≤ 1152921504606846976) (hT : TabAt w) :
    CallsIn Fence.wide 5 Tryd.prog 40 #[.slice (some ⟨b, o, none⟩) m c] w fun e W' => e = .returned (.string ⟨(sha (cat ss o m)).toArray⟩) ∧ Below w.heap.size w W' := by
  have HP := Lib.hid hp
  have HT := Lib.hid hT
  have HL := Lib.hid ht
  have hz := hT.size
  clear hp hT ht
  refine callsIn_of_wp_marks Tryd.func40 rfl trivial ?_ rfl
  simp only [Tryd.ntmps40, List.size_toArray, List.length_cons, List.length_nil, Nat.reduceAdd, Nat.reduceSub, Array.replicate_succ, Array.replicate_zero, List.push_toArray, List.append_toArray, List.nil_append, List.cons_append]
  gi_wp2_with fail
  refine ⟨trivial, ?_⟩
  refine (callsIn_wide.2 (blocks_any _ _ _ _)).mono ?_
  rintro e w1 ⟨rfl, rfl⟩
  rw [ivs]
  gi_wp2_with fail
  obtain ⟨w0, hw0⟩ : ∃ w0 : World, w0 = (w.alloc (.cells (u32s iv.list) 60)).alloc (.cells #[.slice (some ⟨b, o, none⟩) m c] 26) := ⟨_, rfl⟩
  have hsz : w0.heap.size = w.heap.size + 1 + 1 := by rw [hw0, World.size_alloc, World.size_alloc]
  have hB0 : Below w.heap.size w w0 := by rw [hw0]; exact ((Below.refl _ w).alloc (Nat.le_refl _) _).alloc (by simp) _
  have hA0 : ArrAt w0 w.heap.size (u32s iv.list) 60 := by rw [hw0]; exact (ArrAt.new _ _ _).alloc _
  have hX0 : ArrAt w0 (w.heap.size + 1) #[.slice (some ⟨b, o, none⟩) m c] 26 := by rw [hw0]; exact ArrAt.new' _ _ _ (by rw [World.size_alloc])
  have hP0 : PartsAt (w.heap.size + 1) b o m c ss w0 := ⟨hX0.cell rfl, fun j hj => (hB0.cell (p := ⟨b, o + j, none⟩) hb).trans (HP.out j hj)⟩
  rw [← hw0]
  refine wpIn_rangeFunc_runs rfl (by omega) (gf := 60) (lb := #[.pointer (some ⟨w.heap.size + 1, 0, none⟩)]) rfl trivial (enters_of Tryd.func60 (by kernel_rfl) rfl)
    (blocks1_runs 4 (w.heap.size + 1) b o m c ss hm HL.out) rfl
    (fun pre A => ArrAt A w.heap.size (u32s (pre.foldl mix iv).list) 60 ∧ PartsAt (w.heap.size + 1) b o m c ss A ∧ Below w.heap.size w A)
    (fun pre A A' h hB => ⟨h.1.below hB (by omega), h.2.1.below hB (by omega) (by omega), h.2.2.trans (hB.mono (by omega))⟩)
    (fun pre A h => h.2.1) ⟨hA0, hP0, hB0⟩
    (fun x a' A => ∃ B4, B4 ≠ w0.heap.size + 1 ∧ w.heap.size < B4 ∧ ArrAt A B4 (u8s x) 64 ∧ a' = { tmps := #[.slice (some ⟨b, o, none⟩) m c, undef, .string { data := #[] }, .pointer (some ⟨w.heap.size, 0, none⟩), .pointer (some ⟨B4, 0, none⟩), undef, undef, .agg (u32s iv.list), .slice (some ⟨b, o, none⟩) m c, .func (.func 60) #[] #[.pointer (some ⟨w.heap.size + 1, 0, none⟩)], .agg (u8s x),
      undef, undef, undef, undef, undef, undef, undef, undef, undef, undef, undef, undef, undef, undef, undef, undef, undef, undef, undef, undef, undef], defers := [] })
    (fun x a' A A' ⟨B4, h1, h2, h3, h4⟩ hk => ⟨B4, h1, h2, (hk B4 h1).trans h3, h4⟩) ?assign ?body ?done
  case assign =>
    rintro l pre x W hlt ⟨hA, hPW, hBW⟩ hx
    have hxl : (u8s x).size = 64 := by rw [u8s_size, hx]
    generalize hX : u8s x = X at *
    have hone : X.all (·.oneCell') = true := by rw [← hX]; exact u8s_one _
    have HX := Lib.hid hxl
    have HO := Lib.hid hone
    have HA := Lib.hid hA
    have HPW := Lib.hid hPW
    clear hA hPW hxl hone hx hX hw0 hA0 hX0 hP0 hB0
    gi_wp2_with (refine wpListIn_store_row rfl 64 _ _ rfl W.heap.size X rfl rfl 64 _ (ArrAt.new _ _ _) (info_block.trans (by rw [HX.out])) (by rw [HX.out]; rfl) HO.out ?_)
    rw [World.setRow_alloc_new]
    have hb2 : Below W.heap.size W (W.alloc (.cells X 64)) := (Below.refl _ W).alloc (Nat.le_refl _) _
    exact ⟨Above.of_below hb2, ⟨HA.out.alloc _, HPW.out.below hb2 (by omega) (by omega), hBW.alloc (by omega) _⟩, W.heap.size, by omega, by omega, ArrAt.new _ _ _, rfl⟩
  case body =>
    rintro l pre x a' W hle ⟨hA, hPW, hBW⟩ ⟨B4, hne4, hlt4, hA4, rfl⟩ hx
    have hM := fun w h => mixed_any (pre.foldl mix iv) x w (fold_ok pre iv iv_ok) hx h
    have hfold : (pre ++ [x]).foldl mix iv = mix (pre.foldl mix iv) x := by rw [List.foldl_append]; rfl
    have hxl : (u8s x).size = 64 := by rw [u8s_size, hx]
    have hvl : (u32s (pre.foldl mix iv).list).size = 8 := by rw [u32s_size, W8.list_len]
    have hml : (u32s (mix (pre.foldl mix iv) x).list).size = 8 := by rw [u32s_size, W8.list_len]
    have hone : (u32s (mix (pre.foldl mix iv) x).list).all (·.oneCell') = true := u32s_one _
    have hltA := hA.lt
    have hltB := hA4.lt
    have HFD := Lib.hid hfold
    have HTW := Lib.hid (HT.out.below hBW hz)
    generalize hMV : u32s (mix (pre.foldl mix iv) x).list = MV at *
    generalize u32s (pre.foldl mix iv).list = VV at *
    generalize u8s x = XX at *
    have HXL := Lib.hid hxl
    have HVL := Lib.hid hvl
    have HML := Lib.hid hml
    have HO := Lib.hid hone
    have HMV := Lib.hid hMV
    have HMM := Lib.hid hM
    have HA := Lib.hid hA
    have HA4 := Lib.hid hA4
    have HPW := Lib.hid hPW
    clear hA hPW hxl hvl hml hone hfold hMV hM hA4 hw0 hA0 hX0 hP0 hB0
    gi_wp2_with (first
      | (refine wpListIn_load_row rfl 60 _ rfl w.heap.size rfl 60 VV (0, 0) _ HA.out Tryd.underlying60 rfl (info_words.trans (by rw [HVL.out])) ?_)
      | (refine wpListIn_load_row rfl 64 _ rfl B4 rfl 64 XX (0, 0) _ HA4.out Tryd.underlying64 rfl (info_block.trans (by rw [HXL.out])) ?_))
    refine ⟨trivial, ?_⟩
    refine (callsIn_wide.2 (HMM.out W HTW.out)).mono ?_
    rintro e W1 ⟨rfl, hb1⟩
    have HA1 := Lib.hid (HA.out.below hb1 hltA)
    gi_wp2_with (refine wpListIn_store_row rfl 60 _ _ rfl w.heap.size MV rfl rfl 60 VV HA1.out (info_words.trans (by rw [HML.out])) (by rw [HVL.out, HML.out]) HO.out ?_)
    refine ⟨(Above.of_below hb1).trans (Above.setRow W1 w.heap.size MV (by omega)), ?_, ?_, below_setRow (hBW.trans (hb1.mono (by omega))) (Nat.le_refl _) _⟩
    · rw [HFD.out, HMV.out]
      exact HA1.out.row MV
    · have hP1 := HPW.out.below hb1 (by omega) (by omega)
      exact ⟨(cell_setRow_other W1 w.heap.size MV _ (by simp)).trans hP1.1, fun j hj => (cell_setRow_other W1 w.heap.size MV _ (by simp; omega)).trans (hP1.2 j hj)⟩
  case done =>
    rintro D W hD ⟨hA, hPW, hBW⟩ hK
    have hV := fold_ok (blocksOf (cat ss o m)) iv iv_ok
    have hsha : digestOf ((blocksOf (cat ss o m)).foldl mix iv) = sha (cat ss o m) := rfl
    generalize (blocksOf (cat ss o m)).foldl mix iv = V at *
    have hltA := hA.lt
    have hltD : D < W.heap.size := (Array.getElem?_eq_some_iff.1 hK).1
    have HSHA := Lib.hid hsha
    have HV := Lib.hid hV
    have HA := Lib.hid hA
    have HK := Lib.hid hK
    clear hA hPW hw0 hA0 hX0 hP0 hB0 hsha hV hK
    gi_wp2_with fail
    gi_loopw [6, 14] (fun _ i wr => ∃ k : Nat, k ≤ 32 ∧ i = .int .i64 k ∧ ArrAt wr w.heap.size (u32s V.list) 60 ∧ ArrAt wr W.heap.size (u8s ((digestOf V).take k ++ List.replicate (32 - k) 0)) 66 ∧ Below w.heap.size w wr ∧ wr.heap[D]? = some (.deferred (some []))) (fun _ i _ => 32 - (intOf i).toNat)
    case atStart =>
      exact ⟨0, by omega, rfl, HA.out.alloc _, ArrAt.new _ _ _, hBW.alloc (by omega) _, (heap_alloc_old W _ hltD).trans HK.out⟩
    case round =>
      obtain ⟨k, hk, rfl, hA, hA2, hBr, hKr⟩ := hrel
      by_cases hlt : k < 32
      · have hlt' : (k : Int) < 32 := by omega
        have hb := W8.list_lt HV.out (k / 4)
        have hg := digestOf_get (v := V) hlt
        have hset := fill_set8 (digestOf V) k 32 (by rw [digestOf_len]; omega) hlt
        have hc : wr.cell? ⟨w.heap.size, k / 4, none⟩ = some (.int .u32 (V.list.getD (k / 4) 0 : Nat)) := hA.cell (u32s_getD (by rw [W8.list_len]; omega))
        have hc2 : wr.cell? ⟨W.heap.size, k, none⟩ = some (.int .u8 ((((digestOf V).take k ++ List.replicate (32 - k) 0).getD k 0).toNat : Nat)) := hA2.cell (u8s_getD (by simp [digestOf_len]; omega))
        have hf2 : wr.frozen? ⟨W.heap.size, k, none⟩ = false := hA2.frozen
        generalize V.list.getD (k / 4) 0 = x at *
        generalize (((digestOf V).take k ++ List.replicate (32 - k) 0).getD k 0).toNat = y at *
        have HG := Lib.hid hg
        have HS := Lib.hid hset
        have HAr := Lib.hid hA
        have HA2 := Lib.hid hA2
        have HKr := Lib.hid hKr
        clear hg hset hA hA2 hKr hlt HA HK
        gi_wp2
        go_roundw
        case rel =>
          refine ⟨k + 1, by omega, by go_num, HAr.out.other (by omega) _, ?_, hBr.setCell (p := ⟨W.heap.size, k, none⟩) (by simp; omega) _, (heap_setCell_other wr ⟨W.heap.size, k, none⟩ D _ (by simp; omega)).trans HKr.out⟩
          have := HA2.out.set k (.int .u8 (((digestOf V).getD k 0).toNat : Int))
          rw [u8s_set, HS.out, HG.out] at this
          simpa using this
        case measure => simp [intOf]; omega
      · have hk32 : k = 32 := by omega
        rw [hk32, show 32 - 32 = 0 from rfl, List.replicate_zero, List.append_nil, List.take_of_length_le (by rw [digestOf_len]; omega)] at hA2
        have hk33 : 32 ≤ (k : Int) := by omega
        have hcells : ∀ i, i < 32 → wr.cell? ⟨W.heap.size, 0 + i, none⟩ = some (.int .u8 (((digestOf V).map fun b => (b.toNat : Int)).getD i 0)) := by
          intro i hi
          have hi' : i < (digestOf V).length := by rw [digestOf_len]; exact hi
          rw [Nat.zero_add, hA2.cell (u8s_getD hi')]
          simp [List.getD_eq_getElem?_getD, hi']
        have hconv := run_convert_bytes_arg (P := Tryd.prog) wr 43 5 Tryd.underlying43 Tryd.underlying5 W.heap.size 0 32 32 ((digestOf V).map fun b => (b.toNat : Int)) (by simp [digestOf_len]) hcells 9 Tryd.underlying9
        have hstr : strOfNums ((digestOf V).map fun b => (b.toNat : Int)) = ⟨(digestOf V).toArray⟩ := by
          unfold strOfNums
          rw [List.map_map]
          congr 2
          conv => rhs; rw [← List.map_id (digestOf V)]
          apply List.map_congr_left
          intro x _
          simp
        rw [hstr, HSHA.out] at hconv
        have HKr := Lib.hid hKr
        clear hA hA2 hKr hlt HA HK hk32 hstr HSHA hcells
        gi_wp2
        refine ⟨by simp, .inl ⟨_, _, rfl, run_takeDeferred HKr.out, ?_⟩⟩
        exact ⟨_, results_tmp rfl _ _ _, rfl, hBr.trans (belowK_b (w := w) (Nat.le_refl _) wr D _ _ (by omega) HKr.out rfl rfl)⟩

theorem sum_calls (b o m c : Nat) (ss : Nat → ByteArray) (w : World) (hm : (m : Int) ≤ 1048576) (hb : b < w.heap.size) (hp : ∀ j, j < m → w.cell? ⟨b, o + j, none⟩ = some (.string (ss (o + j)))) (ht : ((cat ss o m).length : Int) ≤ 1152921504606846976) (hT : TabAt w) :
    Calls Tryd.prog 40 #[.slice (some ⟨b, o, none⟩) m c] w fun e W' => e = .returned (.string ⟨(sha (cat ss o m)).toArray⟩) ∧ Below w.heap.size w W' :=
  callsIn_wide.1 (sum_in b o m c ss w hm hb hp ht hT)
end Go.Proofs.YtdhpighnkoamiaaDoor
