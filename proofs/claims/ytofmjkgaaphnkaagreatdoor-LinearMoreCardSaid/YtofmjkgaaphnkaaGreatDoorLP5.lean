/- Several texts of layers 3 and 4, one behind the other: LinTabA, LinTabL, LinTabX, LinTabN, RatStr, LinVec, LinRep. -/
import Derived.Laws.CopyOwn
import Derived.Test.YtofmjkgaaphnkaaGreatDoorLP4
/- LinTabA: The contracts of solved and entering. -/
namespace Go.Proofs.YtofmjkgaaphnkaaGreatDoor
open Go.RowKit Putlog

/-- How great the numbers of a table are at most. -/
def LIM : Int := 10 ^ 95
theorem lim_two : LIM * LIM + LIM * LIM < HM := by decide
theorem lim_one : 1 ≤ LIM := by decide
theorem lim_hm : LIM + LIM < HM := by decide
structure SmallT (n cols : Nat) (A : Nat → Nat → Int) (s : St) : Prop where
 d : 0 < s.d ∧ s.d ≤ LIM
 ent : ∀ k, k ≤ n → ∀ i, i ≤ n → -LIM ≤ s.R k i ∧ s.R k i ≤ LIM
 fal : ∀ k, k ≤ n → ∀ j, j < cols → -LIM ≤ fall n s.R (A j) k ∧ fall n s.R (A j) k ≤ LIM
theorem num_range_at {w : World} {g : Nat} {l : List Int} (h : NumB g (rowL l) w) {i : Nat} (hi : i < l.length) : w.rangeAt g (i * 10) (numL (l.getD i 0)) := fun j v hv => by
 have hj : j < 10 := by have := (List.getElem?_eq_some_iff.1 hv).1; rw [numL_len] at this; exact this
 rw [h.cell (rowL_get hi hj), ← hv, numL_get _ hj]
theorem sz_num (z : Int) : (Tryz.prog.info? 81).map (·.size) = some (numL z).length := by rw [info_numW, numL_len]
section
variable {B n cols : Nat} {A : Nat → Nat → Int} {s : St} {G : Geo}
set_option maxRecDepth 100000 in
set_option maxHeartbeats 2000000 in
theorem solved_c (W : World) (h : TabM W B n cols A s G) (hS : SmallT n cols A s) :
  Calls Tryz.prog 38 #[.pointer (some ⟨G.T, 0, none⟩)] W fun e w' => e = .returned (.bool (decide (s.R n n = 0))) ∧ Below W.heap.size W w' := by
 have hl := hS.ent n (Nat.le_refl _) n (Nat.le_refl _)
 have hh := lim_hm
 have h1 := lim_one
 have HSG := Lib.hid (fun w => sign_num (s.R n n) (by omega) (by omega) w)
 obtain ⟨q1, q2, q3, q4⟩ := h.rows n (Nat.le_refl _)
 have hr := num_range_at q2 (i := n) (by rw [rowOf_len]; omega)
 rw [rowOf_get _ _ (Nat.le_refl _)] at hr
 have hsz := sz_num (s.R n n)
 have c1 := h.cms
 have c2 := h.crs
 have hcm := h.lcm
 have hcr := h.lcr
 have hsg : (sgnZ (s.R n n) == 0) = decide (s.R n n = 0) := by
  unfold sgnZ
  by_cases e : s.R n n = 0
  ·simp [e]
  ·rw [if_neg e]
   split <;> simp [e]
 have HG := Lib.hid hsg
 obtain ⟨m, hm⟩ : ∃ m, m = n + 1 := ⟨_, rfl⟩
 rw [← hm] at q1 c2 hcr
 have hnm : (n : Int) < m := by omega
 have hmc : (m : Int) ≤ G.cr := by omega
 have hncm : (n : Int) ≤ G.cm := by omega
 obtain ⟨hcm1, hcm2⟩ := hcm
 obtain ⟨hcr1, hcr2⟩ := hcr
 clear h hS hl hh h1 q2 q3 q4 hsg hm hcm1 hcr1
 generalize s.R n n = z at *
 generalize hlz : numL z = lz at *
 generalize G.T = T at *
 generalize G.gr = gr at *
 generalize G.am = am at *
 generalize G.cm = cm at *
 generalize G.cr = cr at *
 generalize G.rb n = rb at *
 clear hlz
 go_enter Tryz.func38, Tryz.ntmps38
 go_wp2_with (refine wpList_load_mid rfl _ _ rfl rb (n * 10) rfl lz _ hr Tryz.underlying81 rfl hsz ?_)
 refine (HSG.out _).mono ?_
 rintro e w1 ⟨rfl, hB⟩
 have HB := Lib.hid hB
 clear hB
 go_wp2_with fail
 go_ret
 exact ⟨by show Ending.returned (.bool (sgnZ z == 0)) = _; rw [HG.out], HB.out⟩
/-- Which variable enters. -/
def EntP (n cols : Nat) (A : Nat → Nat → Int) (s : St) (e : Int) (ok : Bool) : Prop :=
 (ok = false ∧ ∀ j, j < cols → fall n s.R (A j) n ≤ 0) ∨ (ok = true ∧ ∃ q : Nat, e = q ∧ q < cols ∧ 0 < fall n s.R (A q) n ∧ (s.stalled = true → ∀ j, j < q → fall n s.R (A j) n ≤ 0))
structure EntR (n : Nat) (A : Nat → Nat → Int) (s : St) (j : Nat) (best : Nat) (most : Int) : Prop where
 some : most ≠ 0 → best < j ∧ most = fall n s.R (A best) n ∧ 0 < most ∧ s.stalled = false
 all : ∀ i, i < j → fall n s.R (A i) n ≤ most
 nn : 0 ≤ most
theorem EntR.zero (n : Nat) (A : Nat → Nat → Int) (s : St) : EntR n A s 0 0 0 := ⟨fun h => absurd rfl h, fun i hi => by omega, Int.le_refl _⟩
theorem EntR.skip {j best : Nat} {most : Int} (h : EntR n A s j best most) (hg : fall n s.R (A j) n ≤ most) : EntR n A s (j + 1) best most :=
 ⟨fun h0 => by have := h.some h0; exact ⟨by omega, this.2⟩, fun i hi => by
  by_cases e : i = j
  ·subst e; exact hg
  ·exact h.all i (by omega), h.nn⟩
theorem EntR.take {j best : Nat} {most : Int} (h : EntR n A s j best most) (hg : most < fall n s.R (A j) n) (hst : s.stalled = false) : EntR n A s (j + 1) j (fall n s.R (A j) n) := by
 have := h.nn
 refine ⟨fun _ => ⟨by omega, rfl, by omega, hst⟩, fun i hi => ?_, by omega⟩
 by_cases e : i = j
 ·subst e; exact Int.le_refl _
 ·have := h.all i (by omega); omega
theorem EntR.done {best : Nat} {most : Int} (h : EntR n A s cols best most) : EntP n cols A s best (decide (0 < most)) := by
 by_cases e : most = 0
 ·subst e
  exact .inl ⟨rfl, h.all⟩
 ·obtain ⟨h1, h2, h3, h4⟩ := h.some e
  refine .inr ⟨by simp [h3], best, rfl, h1, by omega, fun hs => by rw [h4] at hs; cases hs⟩
theorem EntR.first {j best : Nat} {most : Int} (h : EntR n A s j best most) (hj : j < cols) (hg : most < fall n s.R (A j) n) (hst : s.stalled = true) : EntP n cols A s j (decide (0 < fall n s.R (A j) n)) := by
 have := h.nn
 have hz : most = 0 := by
  by_cases e : most = 0
  ·exact e
  ·obtain ⟨_, _, _, h4⟩ := h.some e; rw [hst] at h4; cases h4
 refine .inr ⟨by simp; omega, j, rfl, hj, by omega, fun _ i hi => by have := h.all i hi; omega⟩
end
section
variable {B n cols : Nat} {A : Nat → Nat → Int} {s : St} {G : Geo}
set_option maxRecDepth 100000 in
set_option maxHeartbeats 4000000 in
theorem entering_c (W : World) (h : TabM W B n cols A s G) (hS : SmallT n cols A s) (hA : ∀ j, j < cols → ∀ i, i < n → -30000 ≤ A j i ∧ A j i ≤ 30000) (hn : n ≤ 18) (hcols : cols ≤ 64) :
  Calls Tryz.prog 40 #[.pointer (some ⟨G.T, 0, none⟩)] W fun e w' => (∃ (q : Int) (ok : Bool), e = .returned (.tuple #[.int .i64 q, .bool ok]) ∧ EntP n cols A s q ok) ∧ Below W.heap.size W w' := by
 have HH := Lib.hid h
 have HS := Lib.hid hS
 have HA := Lib.hid hA
 obtain ⟨q1, q2, q3, q4⟩ := h.rows n (Nat.le_refl _)
 have c0 := h.cc
 have c1 := h.cms
 have c2 := h.crs
 have hcr := h.lcr
 have hcm := h.lcm
 have c13 := h.stl
 have hT := lt_of_cell c13
 obtain ⟨m, hm⟩ : ∃ m, m = n + 1 := ⟨_, rfl⟩
 rw [← hm] at q1 c2 hcr
 have hnm : (n : Int) < m := by omega
 have hm19 : (m : Int) ≤ 19 := by omega
 have hc64 : (cols : Int) ≤ 64 := by omega
 obtain ⟨hcr1, hcr2⟩ := hcr
 obtain ⟨hcm1, hcm2⟩ := hcm
 have hmc : (m : Int) ≤ G.cr := by omega
 have hncm : (n : Int) ≤ G.cm := by omega
 have HQ2 := Lib.hid q2
 have HM' := Lib.hid hm
 have hb1 := alloc_belowL W (.cells zeroL.toArray 81)
 have HB := Lib.hid hb1
 have HN1 : Hid (NumB W.heap.size (numL 0) (W.alloc (.cells zeroL.toArray 81))) := Lib.hid (by rw [num_zero]; exact heap_alloc_new W _)
 have d0 := keptBelow hb1 c0
 have d1 := keptBelow hb1 c1
 have d2 := keptBelow hb1 c2
 have d3 := keptBelow hb1 q1
 have HTB := Lib.hid (h.via hb1)
 clear h hS hA hn hcols q2 q3 q4 hm hcr1 hcm1 c0 c1 c2 c13 q1 hb1
 generalize hGT : G.T = T at *
 generalize hGgc : G.gc = gc at *
 generalize hGgr : G.gr = gr at *
 generalize hGam : G.am = am at *
 generalize hGcm : G.cm = cm at *
 generalize hGcr : G.cr = cr at *
 generalize hGrb : G.rb n = rb at *
 have HG1 := Lib.hid (And.intro hGT hGgc)
 have HG2 := Lib.hid hGrb
 clear hGT hGgc hGgr hGam hGcm hGcr hGrb
 go_enter Tryz.func40, Tryz.ntmps40
 go_upto_region 3 with fail
 change Code.wp _ _ _ _ (W.alloc (.cells zeroL.toArray 81))
 generalize W.alloc (.cells zeroL.toArray 81) = w0 at *
 go_region
 go_wp2_with fail
 have HBD := Lib.hid HB.out.drew
 have HND : Hid (NumB W.heap.size (numL 0) w0.drew) := Lib.hid HN1.out
 have HTD := Lib.hid (HTB.out.via (Below.refl _ _).drew)
 clear HB HN1 HTB d0 d1 d2 d3
 generalize w0.drew = w1 at *
 go_loopw [4, 26] (fun bv i wr => ∃ j : Nat, j ≤ cols ∧ i = .int .i64 j ∧ (∃ (b : Nat) (most : Int), bv = .int .i64 b ∧ EntR n A s j b most ∧ (0 ≤ most ∧ most ≤ LIM) ∧ NumB W.heap.size (numL most) wr) ∧ TabM wr B n cols A s G ∧ Below W.heap.size W wr) (fun _ i _ => cols - (intOf i).toNat)
 case atStart => exact ⟨0, by omega, rfl, ⟨0, 0, rfl, EntR.zero _ _ _, by have := lim_one; omega, HND.out⟩, HTD.out, HBD.out⟩
 case round =>
  clear HND HTD HBD
  obtain ⟨j, hj, rfl, ⟨b, most, rfl, hER, hML, hnb⟩, hTM, hB⟩ := hrel
  have HER := Lib.hid hER
  have HML := Lib.hid hML
  have HNB := Lib.hid hnb
  have HTM := Lib.hid hTM
  have HB := Lib.hid hB
  clear hER hML hnb hB
  by_cases hlt : j < cols
  ·have hlt' : (j : Int) < cols := by omega
   obtain ⟨ca', cc, f0, f1, f2, f3, f4⟩ := hTM.col j hlt
   obtain ⟨r1, r2, r3, r4⟩ := hTM.rows n (Nat.le_refl _)
   have t13 := hTM.stl
   rw [HG1.out.2] at f0
   rw [HG1.out.1] at t13
   rw [HG2.out] at r2
   have hwe : ∀ w', Below wr.heap.size wr w' → Calls Tryz.prog 47 #[.slice ca' n cc, .slice (some ⟨rb, 0, none⟩) m m] w' fun e w'' => e = .returned (.agg (numL (fall n s.R (A j) n)).toArray) ∧ Below w'.heap.size w' w'' := fun w' hb => by
    have := weighted_num (colOfA n A j) (rowOf n s.R n) ca' cc rb 0 m m w' (f3.via hb) (fun x hx => by
     obtain ⟨i, hi, rfl⟩ := List.mem_map.1 hx
     have := HA.out j hlt i (List.mem_range.1 hi)
     omega) (r2.nums.via hb) (by rw [colOfA_len]; omega) (by rw [rowOf_len]; have := HM'.out; omega) (by rw [colOfA_len]; exact ⟨f1, f2⟩) ⟨Nat.le_refl _, by omega⟩
    rw [colOfA_len, dot_fall] at this
    exact this
   have HWE := Lib.hid (hwe wr (Below.refl _ _))
   have HGL := Lib.hid (HS.out.fal n (Nat.le_refl _) j hlt)
   have hf1 : (n : Int) ≤ cc := by omega
   have HSK := Lib.hid (fun h => EntR.skip HER.out (j := j) h)
   have HTK := Lib.hid (fun h1 h2 => EntR.take HER.out (j := j) h1 h2)
   have HFI := Lib.hid (fun h1 h2 => EntR.first (cols := cols) HER.out (j := j) hlt h1 h2)
   clear hTM f1 f3 f4 r1 r2 r3 r4 hwe
   generalize fall n s.R (A j) n = g at *
   have hlg := numL_len g
   have hog := numL_one g
   have hsz1 := sz_num g
   obtain ⟨lg, hlg'⟩ : ∃ lg, lg = numL g := ⟨_, rfl⟩
   rw [← hlg'] at HWE hlg hog hsz1
   have HLG := Lib.hid hlg'
   clear hlg'
   go_wp2_with fail
   refine HWE.out.mono ?_
   rintro e w2 ⟨rfl, hB2⟩
   have hb3 := alloc_belowL w2 (.cells zeroL.toArray 81)
   have g3 : NumB w2.heap.size zeroL (w2.alloc (.cells zeroL.toArray 81)) := heap_alloc_new w2 (.cells zeroL.toArray 81)
   have hst := store_num g3 rfl hlg hog
   have hbx : Below wr.heap.size wr ((w2.alloc (.cells zeroL.toArray 81)).setCells w2.heap.size 0 lg) := below_setCells w2.heap.size hB2.size lg _ 0 (belowVia hb3 hB2)
   have HB3 := Lib.hid (belowVia hbx HB.out)
   have HNB3 := Lib.hid (HNB.out.via hbx)
   have HTM3 := Lib.hid (HTM.out.via hbx)
   have HNG : Hid (NumB w2.heap.size lg _) := Lib.hid (setCells_whole (cs := zeroL.toArray) lg (by rw [hlg]; rfl) g3)
   have t13' := keptBelow hbx t13
   have hWw : W.heap.size < w2.heap.size := by have := HNB.out; have h2 : W.heap.size < wr.heap.size := (Array.getElem?_eq_some_iff.1 this).1; have := hB2.size; omega
   clear hB2 hb3 g3 hbx t13 HB HNB HTM
   change (storeCells ⟨w2.heap.size, 0, none⟩ lg 0).run Tryz.prog (w2.alloc (.cells #[.int .u64 0, .int .u64 0, .int .u64 0, .int .u64 0, .int .u64 0, .int .u64 0, .int .u64 0, .int .u64 0, .int .u64 0, .int .u64 0] 81)) = _ at hst
   change Hid (NumB w2.heap.size lg ((w2.alloc (.cells zeroL.toArray 81)).setCells w2.heap.size 0 lg)) at HNG
   have hrg := num_range HNG.out
   have hrm := num_range HNB3.out
   have hsz2 := sz_num most
   have hh := lim_hm
   have HMI := Lib.hid (fun w => minus_num g most w)
   have HSG := Lib.hid (fun w => sign_num (g - most) (by have := HGL.out; have := HML.out; omega) (by have := HGL.out; have := HML.out; omega) w)
   obtain ⟨lm, hlm'⟩ : ∃ lm, lm = numL most := ⟨_, rfl⟩
   rw [← HLG.out] at HMI
   rw [← hlm'] at hrm hsz2 HMI
   have HLM := Lib.hid hlm'
   clear hh hlm'
   go_upto_region 8 with fail
   generalize (w2.alloc (.cells zeroL.toArray 81)).setCells w2.heap.size 0 lg = w3 at *
   generalize w2.heap.size = pg at *
   clear hst
   go_wp2_with (first | (refine wpList_load_mid rfl _ _ rfl pg 0 rfl lg _ hrg Tryz.underlying81 rfl hsz1 ?_) | (refine wpList_load_mid rfl _ _ rfl W.heap.size 0 rfl lm _ hrm Tryz.underlying81 rfl hsz2 ?_))
   refine (HMI.out _).mono ?_
   rintro e w4 ⟨rfl, hB4⟩
   go_wp2_with fail
   refine (HSG.out _).mono ?_
   rintro e w5 ⟨rfl, hB5⟩
   have hb5 := belowVia hB5 hB4
   have HB5 := Lib.hid (belowVia hb5 HB3.out)
   have HNB5 := Lib.hid (HNB3.out.via hb5)
   have HTM5 := Lib.hid (HTM3.out.via hb5)
   have t13 := keptBelow hb5 t13'
   have hng := HNG.out.via hb5
   clear hB4 hB5 hb5 HB3 HNB3 HTM3 t13' HNG hrg hrm
   by_cases hg : g ≤ most
   ·have hsg : sgnZ (g - most) ≤ 0 := by unfold sgnZ; split <;> (try split) <;> omega
    generalize sgnZ (g - most) = sg at *
    have HER2 := Lib.hid (HSK.out hg)
    clear HTK HFI HSK
    go_wp2_with fail
    go_roundw
    case rel => exact ⟨j + 1, by omega, by go_num, ⟨b, most, rfl, HER2.out, HML.out, HNB5.out⟩, HTM5.out, HB5.out⟩
    case measure => simp [intOf]; omega
   ·have hsg : 0 < sgnZ (g - most) := by unfold sgnZ; rw [if_neg (by omega), if_neg (by omega)]; decide
    generalize sgnZ (g - most) = sg at *
    have hrg := num_range hng
    have n5 := HNB5.out
    clear HER
    go_upto_region 9 with fail
    refine wp_region_K (fun w' => w'.rangeAt pg 0 lg) 3 (by kernel_rfl) ?_
    refine wpK_tk (i := 0) (d := some 39) (v := ?_) rfl rfl (.inl ⟨by rfl, fun w hw => ?_⟩) hrg ?_
    rotate_left
    ·clear hw; go_simp; with_reducible rfl
    try simp only [Act.put, tA, tB, tC]
    refine wpK_tk (i := 1) (d := some 40) rfl rfl (yieldsIf_load_mid (by rfl) _ _ rfl (pg) (0) rfl lg _ (fun w h => h) Tryz.underlying81 rfl (by assumption)) hrg ?_
    try simp only [Act.put, tA, tB, tC]
    refine wpK_tk (i := 2) (d := some 4) (v := ?_) rfl rfl (.inl ⟨by rfl, fun w hw => ?_⟩) hrg ?_
    rotate_left
    ·clear hw; go_simp; with_reducible rfl
    try simp only [Act.put, tA, tB, tC]
    refine wpK_store (i := 3) (by kernel_rfl) rfl rfl rfl (by kernel_rfl) (by kernel_rfl) _ _ _ rfl W.heap.size 0 lg rfl rfl (by have := num_there n5; rw [numL_len] at this; rw [hlg]; exact this) hsz1 hog ?_
    have ho6 : OnlyAt W.heap.size w5.drew (w5.drew.setCells W.heap.size 0 lg) := only_setCells _ _ _ _ _ (OnlyAt.refl _ _ (Array.getElem?_eq_some_iff.1 n5).1)
    have HN6 : Hid (NumB W.heap.size (numL g) (w5.drew.setCells W.heap.size 0 lg)) := Lib.hid (by rw [← HLG.out]; exact setCells_whole (cs := (numL most).toArray) lg (by rw [hlg]; rfl) n5)
    have HB6 := Lib.hid (ho6.below (HB5.out.drew) (Nat.le_refl _))
    have hTW : T < W.heap.size := by have := HH.out.lts.1; rw [HG1.out.1] at this; exact this
    have HTM6 := Lib.hid (((HTM5.out.via (Below.refl _ _).drew).young HH.out (Nat.le_refl _) ho6))
    have t13 := ho6.cell (g := T) (i := 13) (by omega) t13
    clear hrg n5 ho6 HNB5 HB5 HTM5 hng
    generalize w5.drew.setCells W.heap.size 0 lg = w6 at *
    cases hst : s.stalled with
    | true =>
     rw [hst] at t13
     have HFI2 := Lib.hid (HFI.out (by omega) hst)
     clear HSK HTK HFI hst
     have HMLo := HML
     have HML : Hid (0 ≤ g ∧ g ≤ LIM) := Lib.hid ⟨by have := HMLo.out; omega, HGL.out.2⟩
     have hh := lim_hm
     have hrg := num_range HN6.out
     have hsz := sz_num g
     have HSG := Lib.hid (fun w => sign_num g (by have := HML.out; omega) (by have := HML.out; omega) w)
     have HENT := Lib.hid HFI2.out
     have hsg : decide (0 < sgnZ g) = decide (0 < g) := by
      unfold sgnZ
      by_cases e : g = 0
      ·simp [e]
      ·rw [if_neg e]
       split
       ·rw [decide_eq_false (by decide), decide_eq_false (by omega)]
       ·rw [decide_eq_true (by decide), decide_eq_true (by omega)]
     have HSGD := Lib.hid hsg
     clear hh hsg
     obtain ⟨lz, hlz⟩ : ∃ lz, lz = numL g := ⟨_, rfl⟩
     rw [← hlz] at hrg hsz HSG
     clear hlz
     go_wp2_with (refine wpList_load_mid rfl _ _ rfl W.heap.size 0 rfl lz _ hrg Tryz.underlying81 rfl hsz ?_)
     refine (HSG.out _).mono ?_
     rintro e w9 ⟨rfl, hB9⟩
     have HB9 := Lib.hid (belowVia hB9 HB6.out)
     clear hB9
     go_wp2_with fail
     go_ret2
     exact ⟨⟨_, _, rfl, by have := HENT.out; rw [← HSGD.out] at this; exact this⟩, HB9.out⟩
    | false =>
     rw [hst] at t13
     have HTK2 := Lib.hid (HTK.out (by omega) hst)
     have HML2 : Hid (0 ≤ g ∧ g ≤ LIM) := Lib.hid ⟨by have := HML.out; omega, HGL.out.2⟩
     clear HSK HTK HFI hst
     go_wp2_with fail
     go_roundw
     case rel => exact ⟨j + 1, by omega, by go_num, ⟨j, g, rfl, HTK2.out, HML2.out, HN6.out⟩, HTM6.out, HB6.out⟩
     case measure => simp [intOf]; omega
  ·obtain rfl : j = cols := by omega
   have hh := lim_hm
   have hrg := num_range HNB.out
   have hsz := sz_num most
   have HSG := Lib.hid (fun w => sign_num most (by have := HML.out; omega) (by have := HML.out; omega) w)
   have HENT := Lib.hid HER.out.done
   have hsg : decide (0 < sgnZ most) = decide (0 < most) := by
    unfold sgnZ
    by_cases e : most = 0
    ·simp [e]
    ·rw [if_neg e]
     split
     ·rw [decide_eq_false (by decide), decide_eq_false (by omega)]
     ·rw [decide_eq_true (by decide), decide_eq_true (by omega)]
   have HSGD := Lib.hid hsg
   clear hh hsg
   obtain ⟨lz, hlz⟩ : ∃ lz, lz = numL most := ⟨_, rfl⟩
   rw [← hlz] at hrg hsz HSG
   clear hlz
   go_wp2_with (refine wpList_load_mid rfl _ _ rfl W.heap.size 0 rfl lz _ hrg Tryz.underlying81 rfl hsz ?_)
   refine (HSG.out _).mono ?_
   rintro e w9 ⟨rfl, hB9⟩
   have HB9 := Lib.hid (belowVia hB9 HB.out)
   clear hB9
   go_wp2_with fail
   go_ret2
   exact ⟨⟨_, _, rfl, by have := HENT.out; rw [← HSGD.out] at this; exact this⟩, HB9.out⟩
end
end Go.Proofs.YtofmjkgaaphnkaaGreatDoor
/- LinTabL: The contract of leaving. -/
namespace Go.Proofs.YtofmjkgaaphnkaaGreatDoor
open Go.RowKit Putlog

section
variable {B n cols : Nat} {A : Nat → Nat → Int} {s : St} {G : Geo}
theorem lim_prod {a b c d : Int} (ha : -LIM ≤ a ∧ a ≤ LIM) (hb : -LIM ≤ b ∧ b ≤ LIM) (hc : -LIM ≤ c ∧ c ≤ LIM) (hd : -LIM ≤ d ∧ d ≤ LIM) : -HM < a * b - c * d ∧ a * b - c * d < HM := by
 have h1 := mul_bound ha hb
 have h2 := mul_bound hc hd
 have h3 := lim_two
 omega
set_option maxRecDepth 100000 in
set_option maxHeartbeats 8000000 in
theorem leaving_c (W : World) (h : TabM W B n cols A s G) (hS : SmallT n cols A s) (f : Nat → Int) (bf : Nat) (hf : NumB bf (rowL (rowOf n (fun _ => f) 0)) W) (hfb : ∀ k, k ≤ n → -LIM ≤ f k ∧ f k ≤ LIM) (hn : n ≤ 18) :
  Calls Tryz.prog 74 #[.pointer (some ⟨G.T, 0, none⟩), .slice (some ⟨bf, 0, none⟩) (n + 1) (n + 1)] W fun e w' => (∃ out : Int, e = .returned (.int .i64 out) ∧ Lv n f s n out) ∧ Below W.heap.size W w' := by
 have HH := Lib.hid h
 have HS := Lib.hid hS
 have HF := Lib.hid hf
 have HFB := Lib.hid hfb
 have c1 := h.cms
 have c2 := h.crs
 have hcr := h.lcr
 have hcm := h.lcm
 obtain ⟨m, hm⟩ : ∃ m, m = n + 1 := ⟨_, rfl⟩
 rw [← hm] at c2 hcr ⊢
 have hnm : (n : Int) < m := by omega
 have hm19 : (m : Int) ≤ 19 := by omega
 have hn18 : (n : Int) ≤ 18 := by omega
 obtain ⟨hcr1, hcr2⟩ := hcr
 obtain ⟨hcm1, hcm2⟩ := hcm
 have hmc : (m : Int) ≤ G.cr := by omega
 have hncm : (n : Int) ≤ G.cm := by omega
 have HM' := Lib.hid hm
 have HB := Lib.hid (Below.refl W.heap.size W)
 clear h hS hf hfb hm hcr1 hcm1 hn
 generalize hGT : G.T = T at *
 generalize hGgr : G.gr = gr at *
 generalize hGam : G.am = am at *
 generalize hGcm : G.cm = cm at *
 generalize hGcr : G.cr = cr at *
 have HG := Lib.hid (And.intro hGT (And.intro hGgr (And.intro hGam (And.intro hGcm hGcr))))
 clear hGT hGgr hGam hGcm hGcr
 go_enter Tryz.func74, Tryz.ntmps74
 go_wp2_with fail
 go_loopw [6, 20] (fun ov i wr => ∃ k : Nat, k ≤ n ∧ i = .int .i64 k ∧ (∃ out : Int, ov = .int .i64 out ∧ Lv n f s k out) ∧ Below W.heap.size W wr) (fun _ i _ => n - (intOf i).toNat)
 case atStart => exact ⟨0, by omega, rfl, ⟨-1, rfl, Lv.zero _ _ _⟩, HB.out⟩
 case round =>
  clear HB
  obtain ⟨k, hk, rfl, ⟨out, rfl, hlv⟩, hB⟩ := hrel
  have HLV := Lib.hid hlv
  have HB := Lib.hid hB
  clear hlv
  by_cases hlt : k < n
  ·have hlt' : (k : Int) < n := by omega
   have hTM := HH.out.via hB
   obtain ⟨gm, hgm, hmm⟩ : ∃ gm, am = some ⟨gm, 0, none⟩ ∧ ∀ q, q < n → wr.cell? ⟨gm, q, none⟩ = some (.int .i64 (s.mem q)) := by
    rcases hTM.mem with h0 | ⟨gm, h1, _, _, _, h5⟩
    ·omega
    ·rw [HG.out.2.2.1] at h1; exact ⟨gm, h1, fun q hq => (h5 q hq).1⟩
   subst hgm
   have dm := hmm k hlt
   have hfk := HFB.out k (by omega)
   have x4 : wr.rangeAt bf (k * 10) (numL (f k)) := by
    have := num_range_at (HF.out.via hB) (i := k) (by rw [rowOf_len]; omega)
    rw [rowOf_get _ _ (by omega)] at this; exact this
   have hh := lim_hm
   have h1' := lim_one
   have HSF := Lib.hid (fun w => sign_num (f k) (by omega) (by omega) w)
   have hszk := sz_num (f k)
   have hk19 : (k : Int) < m := by omega
   have HMM := Lib.hid hmm
   clear hh h1' hmm
   obtain ⟨l4, hl4⟩ : ∃ l4, l4 = numL (f k) := ⟨_, rfl⟩
   rw [← hl4] at x4 HSF hszk
   have HL4 := Lib.hid hl4
   clear hl4
   have HTM := Lib.hid hTM
   clear hTM
   go_wp2_with (refine wpList_load_mid rfl _ _ rfl bf (k * 10) rfl l4 _ x4 Tryz.underlying81 rfl hszk ?_)
   refine (HSF.out _).mono ?_
   rintro e w2 ⟨rfl, hB2⟩
   have hB2' := belowVia hB2 hB
   have HB2 := Lib.hid hB2'
   by_cases hfp : f k ≤ 0
   ·have hsg : sgnZ (f k) ≤ 0 := by unfold sgnZ; split <;> (try split) <;> omega
    have HLN := Lib.hid (HLV.out.skip hfp)
    generalize sgnZ (f k) = sg at *
    clear HLV x4 hB hB2 hB2'
    go_wp2_with fail
    go_roundw
    case rel => exact ⟨k + 1, by omega, by go_num, ⟨_, rfl, HLN.out⟩, HB2.out⟩
    case measure => simp [intOf]; omega
   ·have hsg : 0 < sgnZ (f k) := by unfold sgnZ; rw [if_neg (by omega), if_neg (by omega)]; decide
    generalize sgnZ (f k) = sg at *
    have x4 := range_via x4 hB2
    have dm := keptBelow hB2 dm
    have HTM2 := Lib.hid (HTM.out.via hB2)
    have HMM2 := Lib.hid (fun q hq => keptBelow hB2 (HMM.out q hq))
    by_cases h0 : out = -1
    ·subst h0
     have HLN := Lib.hid (HLV.out.first (by omega))
     clear HLV x4 hB hB2 hB2'
     go_wp2_with fail
     go_roundw
     case rel => exact ⟨k + 1, by omega, by go_num, ⟨_, rfl, HLN.out⟩, HB2.out⟩
     case measure => simp [intOf]; omega
    ·obtain ⟨o, rfl, hok, hfo, _⟩ := HLV.out.some h0
     have hofb := HFB.out o (by omega)
     have do1 := HMM2.out o (by omega)
     obtain ⟨a1, a2, a3, a4⟩ := HTM2.out.rows k (by omega)
     obtain ⟨b1, b2, b3, b4⟩ := HTM2.out.rows o (by omega)
     have d2 := HTM2.out.crs
     have d1 := HTM2.out.cms
     rw [HG.out.2.1, ← HM'.out] at a1 b1
     rw [HG.out.1, HG.out.2.1, HG.out.2.2.2.2, ← HM'.out] at d2
     rw [HG.out.1, HG.out.2.2.1, HG.out.2.2.2.1] at d1
     have x1 := num_range_at a2 (i := n) (by rw [rowOf_len]; omega)
     have x2 := num_range_at b2 (i := n) (by rw [rowOf_len]; omega)
     rw [rowOf_get _ _ (Nat.le_refl _)] at x1 x2
     have x3 : w2.rangeAt bf (o * 10) (numL (f o)) := by
      have := num_range_at ((HF.out.via hB).via hB2) (i := o) (by rw [rowOf_len]; omega)
      rw [rowOf_get _ _ (by omega)] at this; exact this
     have hx := lim_prod (HS.out.ent k (by omega) n (Nat.le_refl _)) hofb (HS.out.ent o (by omega) n (Nat.le_refl _)) hfk
     have HX := Lib.hid (And.intro (HLV.out.keep (f := f)) (And.intro (HLV.out.change (f := f) (by omega)) trivial))
     have HT1 := Lib.hid (fun w => times_num (s.R k n) (f o) w)
     have HT2 := Lib.hid (fun w => times_num (s.R o n) (f k) w)
     have HMI := Lib.hid (fun w => minus_num (s.R k n * f o) (s.R o n * f k) w)
     have HSG := Lib.hid (fun w => sign_num (s.R k n * f o - s.R o n * f k) (by omega) (by omega) w)
     have hs1 := sz_num (s.R k n)
     have hs2 := sz_num (s.R o n)
     have hs3 := sz_num (f o)
     rw [← HL4.out] at HT2
     have ho19 : (o : Int) < m := by omega
     have hon : (o : Int) < n := by omega
     have ho0 : (0 : Int) ≤ o := by omega
     generalize s.R k n * f o - s.R o n * f k = x at *
     generalize s.R k n * f o = p1 at *
     generalize s.R o n * f k = p2 at *
     generalize numL (s.R k n) = l1 at *
     generalize numL (s.R o n) = l2 at *
     generalize numL (f o) = l3 at *
     generalize numL p1 = l5 at *
     generalize numL p2 = l6 at *
     generalize numL x = l7 at *
     have e1 := a1
     have e2 := b1
     have hB := hB2'
     clear a1 a2 a3 a4 b1 b2 b3 b4 hB2 hB2' HB2 HTM HTM2 HMM2 HMM c1 c2 hofb hfk HSF
     generalize G.rb k = rk at *
     generalize G.rb o = ro at *
     go_upto_region 8 with fail
     refine wp_region_K (fun w' => w'.cell? ⟨T, 2, none⟩ = some (.slice (some ⟨gr, 0, none⟩) m cr) ∧ w'.cell? ⟨gr, k, none⟩ = some (.slice (some ⟨rk, 0, none⟩) m m) ∧ w'.cell? ⟨gr, o, none⟩ = some (.slice (some ⟨ro, 0, none⟩) m m) ∧ w'.rangeAt rk (n * 10) l1 ∧ w'.rangeAt ro (n * 10) l2 ∧ w'.rangeAt bf (o * 10) l3 ∧ w'.rangeAt bf (k * 10) l4) 32 (by kernel_rfl) ?_
     refine wpK_tk (i := 0) (d := some 34) (v := ?_) rfl rfl (.inl ⟨by rfl, fun w hw => ?_⟩) ⟨d2, e1, e2, x1, x2, x3, x4⟩ ?_
     rotate_left
     ·clear hw; go_simp; with_reducible rfl
     try simp only [Act.put, tA, tB, tC]
     refine wpK_tk (i := 1) (d := some 35) (v := ?_) rfl rfl (.inl ⟨by rfl, fun w hw => ?_⟩) ⟨d2, e1, e2, x1, x2, x3, x4⟩ ?_
     rotate_left
     ·clear hw; go_simp; with_reducible rfl
     try simp only [Act.put, tA, tB, tC]
     refine wpK_tk (i := 2) (d := some 36) (v := ?_) rfl rfl (.inl ⟨by rfl, fun w hw => ?_⟩) ⟨d2, e1, e2, x1, x2, x3, x4⟩ ?_
     rotate_left
     ·clear hw; go_simp; with_reducible rfl
     try simp only [Act.put, tA, tB, tC]
     refine wpK_tk (i := 3) (d := some 37) (v := ?_) rfl rfl (.inl ⟨by rfl, fun w hw => ?_⟩) ⟨d2, e1, e2, x1, x2, x3, x4⟩ ?_
     rotate_left
     ·(obtain ⟨_, _, _, _⟩ := hw); go_simp; with_reducible rfl
     try simp only [Act.put, tA, tB, tC]
     refine wpK_tk (i := 4) (d := some 38) (v := ?_) rfl rfl (.inl ⟨by rfl, fun w hw => ?_⟩) ⟨d2, e1, e2, x1, x2, x3, x4⟩ ?_
     rotate_left
     ·clear hw; go_simp; with_reducible rfl
     try simp only [Act.put, tA, tB, tC]
     refine wpK_tk (i := 5) (d := some 39) (v := ?_) rfl rfl (.inl ⟨by rfl, fun w hw => ?_⟩) ⟨d2, e1, e2, x1, x2, x3, x4⟩ ?_
     rotate_left
     ·clear hw; go_simp; with_reducible rfl
     try simp only [Act.put, tA, tB, tC]
     refine wpK_tk (i := 6) (d := some 40) (v := ?_) rfl rfl (.inl ⟨by rfl, fun w hw => ?_⟩) ⟨d2, e1, e2, x1, x2, x3, x4⟩ ?_
     rotate_left
     ·(obtain ⟨_, _, _, _⟩ := hw); go_simp; with_reducible rfl
     try simp only [Act.put, tA, tB, tC]
     refine wpK_tk (i := 7) (d := some 41) (v := ?_) rfl rfl (.inl ⟨by rfl, fun w hw => ?_⟩) ⟨d2, e1, e2, x1, x2, x3, x4⟩ ?_
     rotate_left
     ·clear hw; go_simp; with_reducible rfl
     try simp only [Act.put, tA, tB, tC]
     refine wpK_tk (i := 8) (d := some 42) (v := ?_) rfl rfl (.inl ⟨by rfl, fun w hw => ?_⟩) ⟨d2, e1, e2, x1, x2, x3, x4⟩ ?_
     rotate_left
     ·clear hw; go_simp; with_reducible rfl
     try simp only [Act.put, tA, tB, tC]
     refine wpK_tk (i := 9) (d := some 43) rfl rfl (yieldsIf_load_mid (by rfl) _ _ rfl (rk) (n * 10) rfl l1 _ (fun w h => h.2.2.2.1) Tryz.underlying81 rfl (by assumption)) ⟨d2, e1, e2, x1, x2, x3, x4⟩ ?_
     try simp only [Act.put, tA, tB, tC]
     refine wpK_tk (i := 10) (d := some 44) (v := ?_) rfl rfl (.inl ⟨by rfl, fun w hw => ?_⟩) ⟨d2, e1, e2, x1, x2, x3, x4⟩ ?_
     rotate_left
     ·clear hw; go_simp; with_reducible rfl
     try simp only [Act.put, tA, tB, tC]
     refine wpK_tk (i := 11) (d := some 45) (v := ?_) rfl rfl (.inl ⟨by rfl, fun w hw => ?_⟩) ⟨d2, e1, e2, x1, x2, x3, x4⟩ ?_
     rotate_left
     ·clear hw; go_simp; with_reducible rfl
     try simp only [Act.put, tA, tB, tC]
     refine wpK_tk (i := 12) (d := some 46) (v := ?_) rfl rfl (.inl ⟨by rfl, fun w hw => ?_⟩) ⟨d2, e1, e2, x1, x2, x3, x4⟩ ?_
     rotate_left
     ·clear hw; go_simp; with_reducible rfl
     try simp only [Act.put, tA, tB, tC]
     refine wpK_tk (i := 13) (d := some 47) rfl rfl (yieldsIf_load_mid (by rfl) _ _ rfl (bf) (o * 10) rfl l3 _ (fun w h => h.2.2.2.2.2.1) Tryz.underlying81 rfl (by assumption)) ⟨d2, e1, e2, x1, x2, x3, x4⟩ ?_
     try simp only [Act.put, tA, tB, tC]
     refine wpK_tk (i := 15) (d := some 49) (v := ?_) rfl rfl (.inl ⟨by rfl, fun w hw => ?_⟩) ⟨d2, e1, e2, x1, x2, x3, x4⟩ ?_
     rotate_left
     ·clear hw; go_simp; with_reducible rfl
     try simp only [Act.put, tA, tB, tC]
     refine wpK_tk (i := 16) (d := some 50) (v := ?_) rfl rfl (.inl ⟨by rfl, fun w hw => ?_⟩) ⟨d2, e1, e2, x1, x2, x3, x4⟩ ?_
     rotate_left
     ·clear hw; go_simp; with_reducible rfl
     try simp only [Act.put, tA, tB, tC]
     refine wpK_tk (i := 17) (d := some 51) (v := ?_) rfl rfl (.inl ⟨by rfl, fun w hw => ?_⟩) ⟨d2, e1, e2, x1, x2, x3, x4⟩ ?_
     rotate_left
     ·clear hw; go_simp; with_reducible rfl
     try simp only [Act.put, tA, tB, tC]
     refine wpK_tk (i := 18) (d := some 52) (v := ?_) rfl rfl (.inl ⟨by rfl, fun w hw => ?_⟩) ⟨d2, e1, e2, x1, x2, x3, x4⟩ ?_
     rotate_left
     ·(obtain ⟨_, _, _, _⟩ := hw); go_simp; with_reducible rfl
     try simp only [Act.put, tA, tB, tC]
     refine wpK_tk (i := 19) (d := some 53) (v := ?_) rfl rfl (.inl ⟨by rfl, fun w hw => ?_⟩) ⟨d2, e1, e2, x1, x2, x3, x4⟩ ?_
     rotate_left
     ·clear hw; go_simp; with_reducible rfl
     try simp only [Act.put, tA, tB, tC]
     refine wpK_tk (i := 20) (d := some 54) (v := ?_) rfl rfl (.inl ⟨by rfl, fun w hw => ?_⟩) ⟨d2, e1, e2, x1, x2, x3, x4⟩ ?_
     rotate_left
     ·clear hw; go_simp; with_reducible rfl
     try simp only [Act.put, tA, tB, tC]
     refine wpK_tk (i := 21) (d := some 55) (v := ?_) rfl rfl (.inl ⟨by rfl, fun w hw => ?_⟩) ⟨d2, e1, e2, x1, x2, x3, x4⟩ ?_
     rotate_left
     ·(obtain ⟨_, _, _, _⟩ := hw); go_simp; with_reducible rfl
     try simp only [Act.put, tA, tB, tC]
     refine wpK_tk (i := 22) (d := some 56) (v := ?_) rfl rfl (.inl ⟨by rfl, fun w hw => ?_⟩) ⟨d2, e1, e2, x1, x2, x3, x4⟩ ?_
     rotate_left
     ·clear hw; go_simp; with_reducible rfl
     try simp only [Act.put, tA, tB, tC]
     refine wpK_tk (i := 23) (d := some 57) (v := ?_) rfl rfl (.inl ⟨by rfl, fun w hw => ?_⟩) ⟨d2, e1, e2, x1, x2, x3, x4⟩ ?_
     rotate_left
     ·clear hw; go_simp; with_reducible rfl
     try simp only [Act.put, tA, tB, tC]
     refine wpK_tk (i := 24) (d := some 58) rfl rfl (yieldsIf_load_mid (by rfl) _ _ rfl (ro) (n * 10) rfl l2 _ (fun w h => h.2.2.2.2.1) Tryz.underlying81 rfl (by assumption)) ⟨d2, e1, e2, x1, x2, x3, x4⟩ ?_
     try simp only [Act.put, tA, tB, tC]
     refine wpK_tk (i := 25) (d := some 59) (v := ?_) rfl rfl (.inl ⟨by rfl, fun w hw => ?_⟩) ⟨d2, e1, e2, x1, x2, x3, x4⟩ ?_
     rotate_left
     ·clear hw; go_simp; with_reducible rfl
     try simp only [Act.put, tA, tB, tC]
     refine wpK_tk (i := 26) (d := some 60) (v := ?_) rfl rfl (.inl ⟨by rfl, fun w hw => ?_⟩) ⟨d2, e1, e2, x1, x2, x3, x4⟩ ?_
     rotate_left
     ·clear hw; go_simp; with_reducible rfl
     try simp only [Act.put, tA, tB, tC]
     refine wpK_tk (i := 27) (d := some 61) (v := ?_) rfl rfl (.inl ⟨by rfl, fun w hw => ?_⟩) ⟨d2, e1, e2, x1, x2, x3, x4⟩ ?_
     rotate_left
     ·clear hw; go_simp; with_reducible rfl
     try simp only [Act.put, tA, tB, tC]
     refine wpK_tk (i := 28) (d := some 62) rfl rfl (yieldsIf_load_mid (by rfl) _ _ rfl (bf) (k * 10) rfl l4 _ (fun w h => h.2.2.2.2.2.2) Tryz.underlying81 rfl (by assumption)) ⟨d2, e1, e2, x1, x2, x3, x4⟩ ?_
     try simp only [Act.put, tA, tB, tC]
     refine wpK_one (i := 14) (by kernel_rfl) rfl rfl ?_
     go_simp
     refine (HT1.out _).mono ?_
     rintro e w1 ⟨rfl, hBw1⟩
     have d2 := keptBelow hBw1 (keptBelow ((Below.refl _ _).drew) d2)
     have e1 := keptBelow hBw1 (keptBelow ((Below.refl _ _).drew) e1)
     have e2 := keptBelow hBw1 (keptBelow ((Below.refl _ _).drew) e2)
     have x1 := range_via (range_via x1 ((Below.refl _ _).drew)) hBw1
     have x2 := range_via (range_via x2 ((Below.refl _ _).drew)) hBw1
     have x3 := range_via (range_via x3 ((Below.refl _ _).drew)) hBw1
     have x4 := range_via (range_via x4 ((Below.refl _ _).drew)) hBw1
     have hB := belowVia hBw1 (belowVia ((Below.refl _ _).drew) hB)
     have dm := keptBelow hBw1 (keptBelow ((Below.refl _ _).drew) dm)
     have d1 := keptBelow hBw1 (keptBelow ((Below.refl _ _).drew) d1)
     have do1 := keptBelow hBw1 (keptBelow ((Below.refl _ _).drew) do1)
     refine ⟨⟨d2, e1, e2, x1, x2, x3, x4⟩, ?_⟩
     try simp only [Act.put, tA, tB, tC]
     refine wpK_one (i := 29) (by kernel_rfl) rfl rfl ?_
     go_simp
     refine (HT2.out _).mono ?_
     rintro e w2 ⟨rfl, hBw2⟩
     have d2 := keptBelow hBw2 d2
     have e1 := keptBelow hBw2 e1
     have e2 := keptBelow hBw2 e2
     have x1 := range_via x1 hBw2
     have x2 := range_via x2 hBw2
     have x3 := range_via x3 hBw2
     have x4 := range_via x4 hBw2
     have hB := belowVia hBw2 hB
     have dm := keptBelow hBw2 dm
     have d1 := keptBelow hBw2 d1
     have do1 := keptBelow hBw2 do1
     refine ⟨⟨d2, e1, e2, x1, x2, x3, x4⟩, ?_⟩
     try simp only [Act.put, tA, tB, tC]
     refine wpK_one (i := 30) (by kernel_rfl) rfl rfl ?_
     go_simp
     refine (HMI.out _).mono ?_
     rintro e w3 ⟨rfl, hBw3⟩
     have d2 := keptBelow hBw3 d2
     have e1 := keptBelow hBw3 e1
     have e2 := keptBelow hBw3 e2
     have x1 := range_via x1 hBw3
     have x2 := range_via x2 hBw3
     have x3 := range_via x3 hBw3
     have x4 := range_via x4 hBw3
     have hB := belowVia hBw3 hB
     have dm := keptBelow hBw3 dm
     have d1 := keptBelow hBw3 d1
     have do1 := keptBelow hBw3 do1
     refine ⟨⟨d2, e1, e2, x1, x2, x3, x4⟩, ?_⟩
     try simp only [Act.put, tA, tB, tC]
     refine wpK_one (i := 31) (by kernel_rfl) rfl rfl ?_
     go_simp
     refine (HSG.out _).mono ?_
     rintro e w4 ⟨rfl, hBw4⟩
     have d2 := keptBelow hBw4 d2
     have e1 := keptBelow hBw4 e1
     have e2 := keptBelow hBw4 e2
     have x1 := range_via x1 hBw4
     have x2 := range_via x2 hBw4
     have x3 := range_via x3 hBw4
     have x4 := range_via x4 hBw4
     have hB := belowVia hBw4 hB
     have dm := keptBelow hBw4 dm
     have d1 := keptBelow hBw4 d1
     have do1 := keptBelow hBw4 do1
     refine ⟨⟨d2, e1, e2, x1, x2, x3, x4⟩, ?_⟩
     try simp only [Act.put, tA, tB, tC]
     refine wpK_lastY (i := 32) (d := some 9) (v := ?_) (by kernel_rfl) rfl rfl (by kernel_rfl) (by kernel_rfl) (.inl ⟨by rfl, fun w hw => ?_⟩) ⟨d2, e1, e2, x1, x2, x3, x4⟩ ?_
     rotate_left
     ·clear hw; go_simp; with_reducible rfl
     try simp only [Act.put, tA, tB, tC]
     have HB9 := Lib.hid hB
     clear x1 x2 x3 x4 d2 e1 e2 hB hBw1 hBw2 hBw3 hBw4 hs1 hs2 hs3 hszk HT1 HT2 HMI HSG
     rcases Int.lt_trichotomy x 0 with hx0 | hx0 | hx0
     ·have hsx : sgnZ x < 0 := by unfold sgnZ; rw [if_neg (by omega), if_pos hx0]; decide
      generalize sgnZ x = sx at *
      clear dm do1 d1
      have HLN := Lib.hid (HX.out.2.1 (.inl hx0))
      clear HLV HX
      go_wp2_with fail
      go_roundw
      case rel => exact ⟨k + 1, by omega, by go_num, ⟨_, rfl, HLN.out⟩, HB9.out⟩
      case measure => simp [intOf]; omega
     ·have hsx : sgnZ x = 0 := by unfold sgnZ; rw [if_pos hx0]
      rw [hsx]
      clear hsx
      by_cases hmo : s.mem k < s.mem o
      ·have hmd : decide (s.mem k < s.mem o) = true := decide_eq_true hmo
       have HLN := Lib.hid (HX.out.2.1 (.inr ⟨hx0, hmo⟩))
       clear HLV HX
       go_wp2_with fail
       go_roundw
       case rel => exact ⟨k + 1, by omega, by go_num, ⟨_, rfl, HLN.out⟩, HB9.out⟩
       case measure => simp [intOf]; omega
      ·have hmd : decide (s.mem k < s.mem o) = false := decide_eq_false hmo
       have HLN := Lib.hid (HX.out.1 (by omega) (fun _ => by omega))
       clear HLV HX
       go_wp2_with fail
       go_roundw
       case rel => exact ⟨k + 1, by omega, by go_num, ⟨_, rfl, HLN.out⟩, HB9.out⟩
       case measure => simp [intOf]; omega
     ·have hsx : 0 < sgnZ x := by unfold sgnZ; rw [if_neg (by omega), if_neg (by omega)]; decide
      have hse : (sgnZ x == 0) = false := by rw [beq_eq_false_iff_ne]; omega
      have hsl : decide (sgnZ x < 0) = false := decide_eq_false (by omega)
      generalize sgnZ x = sx at *
      clear dm do1 d1
      have HLN := Lib.hid (HX.out.1 (by omega) (fun h => absurd h (by omega)))
      clear HLV HX
      go_wp2_with fail
      go_roundw
      case rel => exact ⟨k + 1, by omega, by go_num, ⟨_, rfl, HLN.out⟩, HB9.out⟩
      case measure => simp [intOf]; omega
  ·obtain rfl : k = n := by omega
   go_wp2_with fail
   go_ret
   exact ⟨⟨_, rfl, HLV.out⟩, HB.out⟩
end
end Go.Proofs.YtofmjkgaaphnkaaGreatDoor
/- LinTabX: The contract of exchange. -/
namespace Go.Proofs.YtofmjkgaaphnkaaGreatDoor
open Go.RowKit Putlog

theorem belowB {B : Nat} {a b c : World} (h : Below b.heap.size b c) (k : Below B a b) (hB : B ≤ a.heap.size) : Below B a c := k.trans (h.mono (Nat.le_trans hB k.size))
theorem rowOf_zero (n : Nat) : rowOf n (fun _ _ => 0) 0 = List.replicate (n + 1) 0 := by
 unfold rowOf
 apply List.ext_getElem?
 intro i
 by_cases h : i < n + 1
 ·rw [List.getElem?_map, List.getElem?_range h, List.getElem?_replicate, if_pos h]; rfl
 ·rw [List.getElem?_eq_none (by simp; omega), List.getElem?_eq_none (by simp; omega)]
/-- The falls of the first rows. -/
def fallsTo (n : Nat) (f : Nat → Int) (k : Nat) : List Int := rowOf n (fun _ i => if i < k then f i else 0) 0
theorem fallsTo_zero (n : Nat) (f : Nat → Int) : fallsTo n f 0 = List.replicate (n + 1) 0 := by
 rw [← rowOf_zero]; exact rowOf_congr fun l _ => if_neg (by omega)
theorem fallsTo_all (n : Nat) (f : Nat → Int) : fallsTo n f (n + 1) = rowOf n (fun _ => f) 0 := rowOf_congr fun l hl => if_pos (by omega)
theorem fallsTo_len (n : Nat) (f : Nat → Int) (k : Nat) : (fallsTo n f k).length = n + 1 := rowOf_len ..
theorem fallsTo_set {n : Nat} (f : Nat → Int) {k : Nat} (hk : k ≤ n) : (fallsTo n f k).set k (f k) = fallsTo n f (k + 1) := by
 have := rowOf_set (n := n) (R := fun _ i => if i < k then f i else 0) (R' := fun _ i => if i < k + 1 then f i else 0) (k := 0) (i := k) hk (fun l _ => by
  show (if l < k + 1 then f l else 0) = if l = k then (if k < k + 1 then f k else 0) else if l < k then f l else 0
  by_cases e : l = k
  ·subst e; rw [if_pos rfl]
  ·rw [if_neg e]
   by_cases e2 : l < k
   ·rw [if_pos e2, if_pos (by omega)]
   ·rw [if_neg e2, if_neg (by omega)])
 have e : (if k < k + 1 then f k else 0) = f k := if_pos (by omega)
 rw [e] at this
 exact this
theorem num_there_at {w : World} {g : Nat} {l : List Int} (h : NumB g (rowL l) w) {i : Nat} (hi : i < l.length) : w.there g (i * 10) 10 := fun j hj => by
 rw [h.cell (rowL_get hi hj)]; exact ⟨rfl, h.froz _⟩
theorem DivBox.only {d : Int} {g1 g2 p : Nat} {w w' : World} (h : DivBox d g1 g2 w) (ho : OnlyAt p w w') (h1 : g1 ≠ p) (h2 : g2 ≠ p) : DivBox d g1 g2 w' := by
 obtain ⟨t, q1, q2, q3, q4⟩ := h.twos
 exact ⟨t, ho.cell h1 q1, q2, q3, ho.num q4 h2⟩
section
variable {B n cols : Nat} {A : Nat → Nat → Int} {s : St} {G : Geo}
/-- The rows, exchanged up to a place. -/
def midR (R R' : Nat → Nat → Int) (out k i : Nat) : Nat → Nat → Int := fun r l => if r = out then R r l else if r < k ∨ (r = k ∧ l < i) then R' r l else R r l
theorem midR_step {R R' : Nat → Nat → Int} {out k i : Nat} (ho : k ≠ out) : ∀ r l, midR R R' out k (i + 1) r l = if r = k ∧ l = i then R' k i else midR R R' out k i r l := fun r l => by
 unfold midR
 by_cases e : r = out
 ·rw [if_pos e, if_neg (fun h => ho (by rw [← h.1, e])), if_pos e]
 ·rw [if_neg e, if_neg e]
  by_cases e2 : r = k ∧ l = i
  ·obtain ⟨rfl, rfl⟩ := e2
   rw [if_pos (.inr ⟨rfl, by omega⟩), if_pos ⟨rfl, rfl⟩]
  ·rw [if_neg e2]
   by_cases e3 : r < k ∨ (r = k ∧ l < i)
   ·rw [if_pos e3, if_pos (by rcases e3 with h | h; exact .inl h; exact .inr ⟨h.1, by omega⟩)]
   ·rw [if_neg e3, if_neg (by
     intro h
     rcases h with h | h
     ·exact e3 (.inl h)
     ·refine e3 (.inr ⟨h.1, ?_⟩)
      have : l ≠ i := fun x => e2 ⟨h.1, x⟩
      omega)]
theorem midR_next {R R' : Nat → Nat → Int} {n out k : Nat} : ∀ r l, l ≤ n → midR R R' out k (n + 1) r l = midR R R' out (k + 1) 0 r l := fun r l hl => by
 unfold midR
 by_cases e : r = out
 ·rw [if_pos e, if_pos e]
 ·rw [if_neg e, if_neg e]
  by_cases e2 : r ≤ k
  ·rw [if_pos (by rcases Nat.lt_or_ge r k with h | h; exact .inl h; exact .inr ⟨by omega, by omega⟩), if_pos (.inl (by omega))]
  ·rw [if_neg (by rintro (h | h) <;> omega), if_neg (by rintro (h | h) <;> omega)]
theorem midR_out {R R' : Nat → Nat → Int} {n out : Nat} : ∀ r l, l ≤ n → midR R R' out out 0 r l = midR R R' out (out + 1) 0 r l := fun r l hl => by
 unfold midR
 by_cases e : r = out
 ·rw [if_pos e, if_pos e]
 ·rw [if_neg e, if_neg e]
  by_cases e2 : r < out
  ·rw [if_pos (.inl e2), if_pos (.inl (by omega))]
  ·rw [if_neg (by rintro (h | h) <;> omega), if_neg (by rintro (h | h) <;> omega)]
theorem midR_zero {R R' : Nat → Nat → Int} {out : Nat} : ∀ r l, midR R R' out 0 0 r l = R r l := fun r l => by
 unfold midR
 by_cases e : r = out
 ·rw [if_pos e]
 ·rw [if_neg e, if_neg (by rintro (h | h) <;> omega)]
theorem midR_all {R R' : Nat → Nat → Int} {n out : Nat} (h : ∀ l, R' out l = R out l) : ∀ r l, r ≤ n → midR R R' out (n + 1) 0 r l = R' r l := fun r l hr => by
 unfold midR
 by_cases e : r = out
 ·rw [if_pos e, e, h]
 ·rw [if_neg e, if_pos (.inl (by omega))]
theorem TabM.congr {w : World} (h : TabM w B n cols A s G) {s' : St} (h1 : ∀ k, k < n → s'.mem k = s.mem k) (h2 : ∀ k, k ≤ n → ∀ l, l ≤ n → s'.R k l = s.R k l) (h3 : s'.d = s.d) (h4 : s'.stalled = s.stalled) : TabM w B n cols A s' G := by
 refine ⟨h.bT, h.bgc, h.bgr, h.cc, h.cms, h.crs, by rw [h3]; exact h.com, by rw [h4]; exact h.stl, h.fz, h.lcm, h.lcr, h.col, ?_, ?_, h.inj⟩
 ·rcases h.mem with h0 | ⟨gm, q1, q2, q3, q4, q5⟩
  ·exact .inl h0
  ·exact .inr ⟨gm, q1, q2, q3, q4, fun k hk => by rw [h1 k hk]; exact q5 k hk⟩
 ·intro k hk
  obtain ⟨q1, q2, q3, q4⟩ := h.rows k hk
  exact ⟨q1, by rw [rowOf_congr (R' := s.R) (fun l hl => h2 k hk l hl)]; exact q2, q3, q4⟩
set_option maxRecDepth 100000 in
set_option maxHeartbeats 16000000 in
theorem exchange_c {b : Nat → Int} (W : World) (h : TabM W B n cols A s G) (hg : Putlog.Good n cols (sysC n A b) b s) (hS : SmallT n cols A s) (hA : ∀ j, j < cols → ∀ i, i < n → -30000 ≤ A j i ∧ A j i ≤ 30000) (hn : n ≤ 18) (hcols : cols ≤ 64)
  (q : Nat) (hq : q < cols) (hgain : 0 < fall n s.R (A q) n) (hbl : s.stalled = true → ∀ j, j < q → fall n s.R (A j) n ≤ 0) (hT : TabB W) (hTB : 2 < B) (hBW : B ≤ W.heap.size) :
  Calls Tryz.prog 41 #[.pointer (some ⟨G.T, 0, none⟩), .int .i64 q] W fun e w' => (e = .returned (.tuple #[]) ∧ ∃ s' out, StepT n cols (sysC n A b) s s' q out ∧ TabM w' B n cols A s' G) ∧ Below B W w' := by
 have HH := Lib.hid h
 have HGD := Lib.hid hg
 have HS := Lib.hid hS
 have HA := Lib.hid hA
 have HGA := Lib.hid hgain
 have HBL := Lib.hid hbl
 have HT := Lib.hid hT
 have HTB := Lib.hid (And.intro hTB hBW)
 obtain ⟨i0, hi0, hz0, hz1, hz2⟩ := info_numbers
 have HI0 := Lib.hid hi0
 have HZ0 := Lib.hid hz0
 have HZ1 := Lib.hid hz1
 have HZ2 := Lib.hid hz2
 have c0 := h.cc
 have c1 := h.cms
 have c2 := h.crs
 have hcr := h.lcr
 have hcm := h.lcm
 obtain ⟨m, hm⟩ : ∃ m, m = n + 1 := ⟨_, rfl⟩
 rw [← hm] at c2 hcr
 have hnm : (n : Int) < m := by omega
 have hm19 : (m : Int) ≤ 19 := by omega
 have hw1 : IntKind.i64.wrap ((n : Int) + 1) = m := by rw [IntKind.wrap_i64]; omega
 have hn18 : (n : Int) ≤ 18 := by omega
 have hq64 : (q : Int) < cols := by omega
 have hc64 : (cols : Int) ≤ 64 := by omega
 obtain ⟨hcr1, hcr2⟩ := hcr
 obtain ⟨hcm1, hcm2⟩ := hcm
 have hmc : (m : Int) ≤ G.cr := by omega
 have hncm : (n : Int) ≤ G.cm := by omega
 have HM' := Lib.hid hm
 have HQ := Lib.hid hq
 have HN18 := Lib.hid hn
 have HSZW := Lib.hid (lt_of_cell c0)
 clear h hg hS hA hgain hbl hT hTB hBW hi0 hz0 hz1 hz2 hm hcr1 hcm1 hn hcols hq
 generalize hGT : G.T = T at *
 generalize hGgc : G.gc = gc at *
 generalize hGgr : G.gr = gr at *
 generalize hGam : G.am = am at *
 generalize hGcm : G.cm = cm at *
 generalize hGcr : G.cr = cr at *
 have HG := Lib.hid (And.intro hGT (And.intro hGgc (And.intro hGgr (And.intro hGam (And.intro hGcm hGcr)))))
 clear hGT hGgc hGgr hGam hGcm hGcr
 go_enter Tryz.func41, Tryz.ntmps41
 go_wp2_with (at_make; go_must (refine wpList_make_full _ rfl _ _ 77 rfl W.heap.size 81 i0 (.agg zeroL.toArray) 10 Tryz.underlying77 HI0.out HZ0.out HZ1.out .i64 .i64 (m : Int) (m : Int) m rfl rfl rfl rfl (by rw [HZ2.out]; omega) (by unfold maxLen; omega) (Nat.le_refl _) ?_); intro w1 hown hgrow; have hr0 := num_made hown; have hB1 := belowMadeL hgrow; clear hown hgrow; have c2 := keptBelow hB1 c2; have c0 := keptBelow hB1 c0)
 rw [HM'.out, ← fallsTo_zero n (fun k => fall n s.R (A q) k)] at hr0
 have HR := Lib.hid hr0
 have HB := Lib.hid hB1
 obtain ⟨f, hf⟩ : ∃ f : Nat → Int, f = fun k => fall n s.R (A q) k := ⟨_, rfl⟩
 rw [← hf] at HR
 have HFD := Lib.hid hf
 clear hf hr0 hB1 c0
 go_loopw [27] (fun i wr => ∃ k : Nat, k ≤ m ∧ i = .int .i64 k ∧ NumB W.heap.size (rowL (fallsTo n f k)) wr ∧ Below W.heap.size W wr) (fun i _ => m - (intOf i).toNat)
 case atStart => exact ⟨0, by omega, rfl, HR.out, HB.out⟩
 case round =>
  clear HR HB
  obtain ⟨k, hk, rfl, hr, hB⟩ := hrel
  have HR := Lib.hid hr
  have HB := Lib.hid hB
  clear hr
  by_cases hlt : k < m
  ·have hlt' : (k : Int) < m := by omega
   have hkn : k ≤ n := by have := HM'.out; omega
   have hTM := HH.out.via hB
   obtain ⟨ca', cc, f0, f1, f2, f3, f4⟩ := hTM.col q HQ.out
   obtain ⟨r1, r2, r3, r4⟩ := hTM.rows k hkn
   have d0 := hTM.cc
   have d2 := hTM.crs
   rw [HG.out.2.1] at f0
   rw [HG.out.1, HG.out.2.1] at d0
   rw [HG.out.2.2.1, ← HM'.out] at r1
   rw [HG.out.1, HG.out.2.2.1, HG.out.2.2.2.2.2, ← HM'.out] at d2
   have hwe : Calls Tryz.prog 47 #[.slice ca' n cc, .slice (some ⟨G.rb k, 0, none⟩) m m] wr fun e w'' => e = .returned (.agg (numL (f k)).toArray) ∧ Below wr.heap.size wr w'' := by
    have := weighted_num (colOfA n A q) (rowOf n s.R k) ca' cc (G.rb k) 0 m m wr f3 (fun x hx => by
     obtain ⟨i, hi, rfl⟩ := List.mem_map.1 hx
     have := HA.out q HQ.out i (List.mem_range.1 hi)
     omega) r2.nums (by rw [colOfA_len]; omega) (by rw [rowOf_len]; have := HM'.out; omega) (by rw [colOfA_len]; exact ⟨f1, f2⟩) ⟨Nat.le_refl _, by omega⟩
    rw [colOfA_len, dot_fall] at this
    rw [HFD.out]
    exact this
   have HWE := Lib.hid hwe
   have hf1 : (n : Int) ≤ cc := by omega
   have hst : ∀ w, NumB W.heap.size (rowL (fallsTo n f k)) w → _ := fun w h => store_row h (i := k) (by rw [fallsTo_len]; omega) (f k)
   rw [fallsTo_set f hkn] at hst
   have HST := Lib.hid hst
   have hzl := numL_len (f k)
   clear hTM f1 f3 f4 r2 r3 r4 hwe hst hkn c2
   generalize f k = z at *
   generalize G.rb k = rk at *
   go_wp2_with fail
   refine HWE.out.mono ?_
   rintro e w5 ⟨rfl, hB5⟩
   have N5 := Lib.hid (HR.out.via hB5)
   have HB5 := Lib.hid (belowVia hB5 HB.out)
   obtain ⟨hs1, hs2⟩ := HST.out w5 N5.out
   have N6 := Lib.hid hs2
   have HB6 := Lib.hid (below_setCells W.heap.size (Nat.le_refl _) (numL z) w5 (k * 10) HB5.out)
   clear hB5 hB HB HR HST hs2 HWE HB5 N5
   generalize numL z = lz at *
   go_wp2_with fail
   exact ⟨⟨k + 1, by omega, by go_num, N6.out, HB6.out⟩, by simp [intOf]; omega⟩
  ·obtain rfl : m = k := by omega
   clear hlt hk
   rw [HM'.out, fallsTo_all] at HR
   have hF := HR.out
   have hTM := HH.out.via hB
   have hfb : ∀ k, k ≤ n → -LIM ≤ f k ∧ f k ≤ LIM := fun k hk => by rw [HFD.out]; exact HS.out.fal k hk q HQ.out
   have hL := leaving_c wr hTM HS.out f W.heap.size hF hfb HN18.out
   rw [← HM'.out, HG.out.1] at hL
   have HLV := Lib.hid hL
   have HFB := Lib.hid hfb
   clear hL hfb hF hTM
   go_wp2_with fail
   refine HLV.out.mono ?_
   rintro e w2 ⟨⟨ov, rfl, hlv⟩, hB2⟩
   obtain ⟨o, rfl, hle, htie⟩ : ∃ o : Nat, ov = o ∧ Putlog.Leaves n (sysC n A b) s.R q o ∧ ∀ k, k < n → 0 < fall n s.R (sysC n A b q) k → s.R k n * fall n s.R (sysC n A b q) o = s.R o n * fall n s.R (sysC n A b q) k → s.mem o ≤ s.mem k := by
    refine Lv.done HGD.out (e := q) ?_ ?_
    ·rw [sysC_var]; exact HGA.out
    ·rw [sysC_var]; rw [HFD.out] at hlv; exact hlv
   have hon : (o : Int) < n := by have := hle.lt; omega
   have hom : (o : Int) < m := by omega
   have HLE := Lib.hid hle
   have HTIE := Lib.hid htie
   have hBa := belowVia hB2 HB.out
   have hTM := HH.out.via hBa
   obtain ⟨r1, r2, r3, r4⟩ := hTM.rows o (by have := hle.lt; omega)
   have d2 := hTM.crs
   rw [HG.out.2.2.1, ← HM'.out] at r1
   rw [HG.out.1, HG.out.2.2.1, HG.out.2.2.2.2.2, ← HM'.out] at d2
   have x1 := num_range_at r2 (i := n) (by rw [rowOf_len]; omega)
   rw [rowOf_get _ _ (Nat.le_refl _)] at x1
   have hzb := HS.out.ent o (by have := hle.lt; omega) n (Nat.le_refl _)
   have hh := lim_hm
   have h1' := lim_one
   have HSG := Lib.hid (fun w => sign_num (s.R o n) (by omega) (by omega) w)
   have hsz1 := sz_num (s.R o n)
   have hsgz : (sgnZ (s.R o n) == 0) = decide (s.R o n = 0) := by
    unfold sgnZ
    by_cases e : s.R o n = 0
    ·simp [e]
    ·rw [if_neg e]
     split <;> simp [e]
   have HSZ := Lib.hid hsgz
   have HTM := Lib.hid hTM
   have HBA := Lib.hid hBa
   have HFR := Lib.hid (HR.out.via hB2)
   clear hle htie hlv hB hB2 hBa hTM r2 r3 r4 hzb hh h1' hsgz c1 c2
   generalize numL (s.R o n) = l1 at *
   generalize sgnZ (s.R o n) = sg at *
   generalize hro : G.rb o = ro at *
   have HRO := Lib.hid hro
   clear hro
   go_wp2_with (refine wpList_load_mid rfl _ _ rfl ro (n * 10) rfl l1 _ x1 Tryz.underlying81 rfl hsz1 ?_)
   refine (HSG.out _).mono ?_
   rintro e w3 ⟨rfl, hB3⟩
   have hTM4 := (HTM.out.via hB3).mark (sg == 0)
   rw [HG.out.1] at hTM4
   have x3 := hTM4.com
   rw [HG.out.1] at x3
   have d2 := hTM4.crs
   rw [HG.out.1, HG.out.2.2.1, HG.out.2.2.2.2.2, ← HM'.out] at d2
   have t13 := (HTM.out.via hB3).stl
   rw [HG.out.1] at t13
   have f13 := (HTM.out.via hB3).fz 13
   rw [HG.out.1] at f13
   have hBT : B ≤ T := by have := HH.out.bT; rw [HG.out.1] at this; exact this
   have hB4 : Below B W (w3.setCell ⟨T, 13, none⟩ (.bool (sg == 0))) := ((belowVia hB3 HBA.out).mono HTB.out.2).setCell (p := ⟨T, 13, none⟩) hBT _
   have hF4 : NumB W.heap.size (rowL (rowOf n (fun _ => f) 0)) (w3.setCell ⟨T, 13, none⟩ (.bool (sg == 0))) := (HFR.out.via hB3).other (by have := HSZW.out; omega)
   have hT4 : TabB (w3.setCell ⟨T, 13, none⟩ (.bool (sg == 0))) := ⟨fun j hj => by
    have := hB4.cell (p := ⟨2, j, none⟩) HTB.out.1
    rw [this]; exact HT.out.tab j hj, Nat.lt_of_lt_of_le HT.out.size (by have := HBA.out.size; have := hB3.size; rw [World.size_setCell]; omega)⟩
   have hs4 : W.heap.size < (w3.setCell ⟨T, 13, none⟩ (.bool (sg == 0))).heap.size := (Array.getElem?_eq_some_iff.1 hF4).1
   have HTM4 := Lib.hid hTM4
   have HB4 := Lib.hid hB4
   have HF4 := Lib.hid hF4
   have HT4 := Lib.hid hT4
   have HS4 := Lib.hid hs4
   have hd := HS.out.d
   have hh := lim_hm
   have h1' := lim_one
   have HDI := Lib.hid (fun w h => dividing_num s.d hd.1 (by omega) w h)
   have hsz3 := sz_num s.d
   clear hTM4 hB4 hF4 hT4 hs4 hB3 HTM HBA HFR HSG hd hh h1' hBT x1 HR HB
   dsimp only at x3
   generalize numL s.d = ld at *
   go_wp2_with (refine wpList_load_mid rfl _ _ rfl T 3 rfl ld _ x3 Tryz.underlying81 rfl hsz3 ?_)
   refine (HDI.out _ HT4.out).mono ?_
   rintro e w5 ⟨⟨g1, g2, rfl, hg1, hg2, hdv⟩, hB5⟩
   have HTM5 := Lib.hid (HTM4.out.via hB5)
   have HF5 := Lib.hid (HF4.out.via hB5)
   have HB5 := Lib.hid (belowB hB5 HB4.out HTB.out.2)
   have HDV := Lib.hid hdv
   have hg1' : W.heap.size < g1 := by have := HS4.out; omega
   have hg2' : W.heap.size < g2 := by have := HS4.out; omega
   have d2 := keptBelow hB5 d2
   have HS5 : Hid ((w3.setCell ⟨T, 13, none⟩ (.bool (sg == 0))).heap.size ≤ g1 ∧ (w3.setCell ⟨T, 13, none⟩ (.bool (sg == 0))).heap.size ≤ g2) := Lib.hid ⟨hg1, hg2⟩
   clear hB5 hdv hg1 hg2 HDI HB4 HF4 HT4 x3 t13 f13
   obtain ⟨R', hR'⟩ : ∃ R', R' = pivR n (sysC n A b) s.R s.d q o := ⟨_, rfl⟩
   have HRP := Lib.hid hR'
   have hpq : ∀ k, k ≤ n → k ≠ o → ∀ i, i ≤ n → s.R k i * f o - s.R o i * f k = s.d * R' k i := fun k hk hko i hi => by
    rw [hR', HFD.out]
    have e : ∀ r, fall n s.R (sysC n A b q) r = fall n s.R (A q) r := fun r => by rw [sysC_var]
    by_cases hkn : k < n
    ·have := HGD.out.1.pivot_row (q : Int) HLE.out.lt hkn hko hi
     rw [e, e] at this; exact this.symm
    ·obtain rfl : k = n := by omega
     have := (HGD.out.1.pivot_all (j := (q : Int)) (by omega) HLE.out.lt hi).1
     rw [e, e] at this; exact this.symm
   have HPQ := Lib.hid hpq
   have hR'o : ∀ l, R' o l = s.R o l := fun l => by rw [hR']; exact pivR_out _ _ _
   have HRO2 := Lib.hid hR'o
   have hTM0 : TabM w5 B n cols A ⟨s.mem, midR s.R R' o 0 0, s.d, sg == 0⟩ G := HTM5.out.congr (fun _ _ => rfl) (fun k _ l _ => midR_zero k l) rfl rfl
   have HTM0 := Lib.hid hTM0
   clear hR' hpq hR'o hTM0 HTM5 HTM4 HS4
   go_wp2_with fail
   clear d2
   go_loopw [74] (fun i wr => ∃ k : Nat, k ≤ m ∧ i = .int .i64 k ∧ TabM wr B n cols A ⟨s.mem, midR s.R R' o k 0, s.d, sg == 0⟩ G ∧ NumB W.heap.size (rowL (rowOf n (fun _ => f) 0)) wr ∧ DivBox s.d g1 g2 wr ∧ Below B W wr) (fun i _ => m - (intOf i).toNat)
   case atStart => exact ⟨0, by omega, rfl, HTM0.out, HF5.out, HDV.out, HB5.out⟩
   case round =>
    clear HTM0 HF5 HDV HB5
    obtain ⟨k, hk, rfl, hTM, hf, hdv, hB⟩ := hrel
    have HTM := Lib.hid hTM
    have HF := Lib.hid hf
    have HDV := Lib.hid hdv
    have HB := Lib.hid hB
    clear hf hdv hB
    by_cases hlt : k < m
    ·have hlt' : (k : Int) < m := by omega
     have hkn : k ≤ n := by have := HM'.out; omega
     have r1 := (hTM.rows k hkn).1
     rw [HG.out.2.2.1, ← HM'.out] at r1
     obtain ⟨rk, hrk⟩ : ∃ rk, rk = G.rb k := ⟨_, rfl⟩
     rw [← hrk] at r1
     have HRK := Lib.hid hrk
     clear hrk hTM
     by_cases hko : k = o
     ·subst hko
      have hke : ((k : Int) == k) = true := by simp
      have HTM1 : Hid (TabM wr B n cols A ⟨s.mem, midR s.R R' k (k + 1) 0, s.d, sg == 0⟩ G) := Lib.hid (HTM.out.congr (fun _ _ => rfl) (fun r _ l hl => (midR_out r l hl).symm) rfl rfl)
      clear HTM
      go_wp2_with fail
      go_roundw
      case rel => exact ⟨k + 1, by omega, by go_num, HTM1.out, HF.out, HDV.out, HB.out⟩
      case measure => simp [intOf]; omega
     ·have hke : ((k : Int) == o) = false := by rw [beq_eq_false_iff_ne]; omega
      have HKO := Lib.hid hko
      have HKN := Lib.hid hkn
      clear hko hkn
      go_wp2_with fail
      clear r1
      go_loopw [84] (fun ix wx => ∃ i : Nat, i ≤ m ∧ ix = .int .i64 i ∧ TabM wx B n cols A ⟨s.mem, midR s.R R' o k i, s.d, sg == 0⟩ G ∧ NumB W.heap.size (rowL (rowOf n (fun _ => f) 0)) wx ∧ DivBox s.d g1 g2 wx ∧ Below B W wx) (fun ix _ => m - (intOf ix).toNat)
      case atStart => exact ⟨0, by omega, rfl, HTM.out, HF.out, HDV.out, HB.out⟩
      case round =>
       clear HTM HF HDV HB
       obtain ⟨i, hi, rfl, hTM, n1, dv, hB⟩ := hrel
       by_cases hit : i < m
       ·have hit' : (i : Int) < m := by omega
        have hin : i ≤ n := by have := HM'.out; omega
        obtain ⟨_, q2, q3, _⟩ := hTM.rows k HKN.out
        obtain ⟨_, b2, _, _⟩ := hTM.rows o (by have := HLE.out.lt; omega)
        have hir : i < (rowOf n (midR s.R R' o k i) k).length := by rw [rowOf_len]; omega
        have x1 := num_range_at q2 hir
        rw [rowOf_get _ _ hin, ← HRK.out] at x1
        have x3 := num_range_at b2 (i := i) (by rw [rowOf_len]; omega)
        rw [rowOf_get _ _ hin, HRO.out] at x3
        have e1 : midR s.R R' o k i k i = s.R k i := by unfold midR; rw [if_neg HKO.out, if_neg (by rintro (h | h) <;> omega)]
        have e2 : midR s.R R' o k i o i = s.R o i := by unfold midR; rw [if_pos rfl]
        dsimp only at x1 x3
        rw [e1] at x1
        rw [e2] at x3
        have x2 := num_range_at n1 (i := o) (by rw [rowOf_len]; have := HLE.out.lt; omega)
        have x4 := num_range_at n1 (i := k) (by rw [rowOf_len]; have := HKN.out; omega)
        rw [rowOf_get _ _ (by have := HLE.out.lt; omega)] at x2
        rw [rowOf_get _ _ HKN.out] at x4
        have nr : NumB rk (rowL (rowOf n (midR s.R R' o k i) k)) wr := by rw [HRK.out]; exact q2
        have hx := lim_prod (HS.out.ent k HKN.out i hin) (HFB.out o (by have := HLE.out.lt; omega)) (HS.out.ent o (by have := HLE.out.lt; omega) i hin) (HFB.out k HKN.out)
        have hpq := HPQ.out k HKN.out HKO.out i hin
        rw [hpq] at hx
        have HT1 := Lib.hid (fun w => times_num (s.R k i) (f o) w)
        have HT2 := Lib.hid (fun w => times_num (s.R o i) (f k) w)
        have HMI := Lib.hid (fun w => minus_num (s.R k i * f o) (s.R o i * f k) w)
        rw [hpq] at HMI
        have HDQ := Lib.hid (fun w hD => divide_num s.d (R' k i) g1 g2 (by omega) (by omega) w hD)
        have hmid := midR_step (R := s.R) (R' := R') (i := i) HKO.out
        have HSET : Hid ((rowOf n (midR s.R R' o k i) k).set i (R' k i) = rowOf n (midR s.R R' o k (i + 1)) k) := Lib.hid (by
         have := rowOf_set (n := n) (R := midR s.R R' o k i) (R' := midR s.R R' o k (i + 1)) (k := k) hin (fun l _ => by
          rw [hmid k l, hmid k i, if_pos (And.intro rfl rfl)]
          by_cases e : l = i
          ·rw [if_pos ⟨rfl, e⟩, if_pos e]
          ·rw [if_neg (fun h => e h.2), if_neg e])
         rw [hmid k i, if_pos (And.intro rfl rfl)] at this
         exact this)
        have HOTH : Hid (∀ r, r ≤ n → r ≠ k → ∀ l, l ≤ n → midR s.R R' o k (i + 1) r l = midR s.R R' o k i r l) := Lib.hid (fun r _ hrk l _ => by rw [hmid r l, if_neg (fun h => hrk h.1)])
        have hs1 := sz_num (s.R k i)
        have hs2 := sz_num (f o)
        have hs3 := sz_num (s.R o i)
        have hs4 := sz_num (f k)
        have hs8 := sz_num (R' k i)
        have hl8 := numL_len (R' k i)
        have ho8 := numL_one (R' k i)
        have HST : Hid (∀ w, NumB rk (rowL (rowOf n (midR s.R R' o k i) k)) w → NumB rk (rowL (rowOf n (midR s.R R' o k (i + 1)) k)) (w.setCells rk (i * 10) (numL (R' k i)))) := Lib.hid (fun w hw => by have := (store_row hw hir (R' k i)).2; rw [HSET.out] at this; exact this)
        have hBrk : B ≤ rk := by have := HRK.out; have := HH.out.bT; omega
        have hrkW : rk < W.heap.size := by have := HH.out.lts.2.2.1 k HKN.out; have := HRK.out; omega
        clear e1 e2 q2 q3 b2 hx hpq hmid hin
        generalize s.d * R' k i = dq at *
        generalize s.R k i * f o = p1 at *
        generalize s.R o i * f k = p2 at *
        generalize numL dq = l7 at *
        generalize numL p1 = l5 at *
        generalize numL p2 = l6 at *
        generalize numL (s.R k i) = l1 at *
        generalize numL (f o) = l2 at *
        generalize numL (s.R o i) = l3 at *
        generalize numL (f k) = l4 at *
        generalize numL (R' k i) = l8 at *
        go_upto_region 18 with fail
        refine wp_region_K (fun w' => w'.rangeAt rk (i * 10) l1 ∧ w'.rangeAt W.heap.size (o * 10) l2 ∧ w'.rangeAt ro (i * 10) l3 ∧ w'.rangeAt W.heap.size (k * 10) l4) 24 (by kernel_rfl) ?_
        refine wpK_tk (i := 0) (d := some 87) (v := ?_) rfl rfl (.inl ⟨by rfl, fun w hw => ?_⟩) ⟨x1, x2, x3, x4⟩ ?_
        rotate_left
        ·clear hw; go_simp; with_reducible rfl
        try simp only [Act.put, tA, tB, tC]
        refine wpK_tk (i := 1) (d := some 88) (v := ?_) rfl rfl (.inl ⟨by rfl, fun w hw => ?_⟩) ⟨x1, x2, x3, x4⟩ ?_
        rotate_left
        ·clear hw; go_simp; with_reducible rfl
        try simp only [Act.put, tA, tB, tC]
        refine wpK_tk (i := 2) (d := some 89) (v := ?_) rfl rfl (.inl ⟨by rfl, fun w hw => ?_⟩) ⟨x1, x2, x3, x4⟩ ?_
        rotate_left
        ·clear hw; go_simp; with_reducible rfl
        try simp only [Act.put, tA, tB, tC]
        refine wpK_tk (i := 3) (d := some 90) (v := ?_) rfl rfl (.inl ⟨by rfl, fun w hw => ?_⟩) ⟨x1, x2, x3, x4⟩ ?_
        rotate_left
        ·clear hw; go_simp; with_reducible rfl
        try simp only [Act.put, tA, tB, tC]
        refine wpK_tk (i := 4) (d := some 91) (v := ?_) rfl rfl (.inl ⟨by rfl, fun w hw => ?_⟩) ⟨x1, x2, x3, x4⟩ ?_
        rotate_left
        ·clear hw; go_simp; with_reducible rfl
        try simp only [Act.put, tA, tB, tC]
        refine wpK_tk (i := 5) (d := some 92) (v := ?_) rfl rfl (.inl ⟨by rfl, fun w hw => ?_⟩) ⟨x1, x2, x3, x4⟩ ?_
        rotate_left
        ·clear hw; go_simp; with_reducible rfl
        try simp only [Act.put, tA, tB, tC]
        refine wpK_tk (i := 6) (d := some 93) rfl rfl (yieldsIf_load_mid (by rfl) _ _ rfl (rk) (i * 10) rfl l1 _ (fun w h => h.1) Tryz.underlying81 rfl (by assumption)) ⟨x1, x2, x3, x4⟩ ?_
        try simp only [Act.put, tA, tB, tC]
        refine wpK_tk (i := 7) (d := some 94) (v := ?_) rfl rfl (.inl ⟨by rfl, fun w hw => ?_⟩) ⟨x1, x2, x3, x4⟩ ?_
        rotate_left
        ·clear hw; go_simp; with_reducible rfl
        try simp only [Act.put, tA, tB, tC]
        refine wpK_tk (i := 8) (d := some 95) (v := ?_) rfl rfl (.inl ⟨by rfl, fun w hw => ?_⟩) ⟨x1, x2, x3, x4⟩ ?_
        rotate_left
        ·clear hw; go_simp; with_reducible rfl
        try simp only [Act.put, tA, tB, tC]
        refine wpK_tk (i := 9) (d := some 96) (v := ?_) rfl rfl (.inl ⟨by rfl, fun w hw => ?_⟩) ⟨x1, x2, x3, x4⟩ ?_
        rotate_left
        ·clear hw; go_simp; with_reducible rfl
        try simp only [Act.put, tA, tB, tC]
        refine wpK_tk (i := 10) (d := some 97) rfl rfl (yieldsIf_load_mid (by rfl) _ _ rfl (W.heap.size) (o * 10) rfl l2 _ (fun w h => h.2.1) Tryz.underlying81 rfl (by assumption)) ⟨x1, x2, x3, x4⟩ ?_
        try simp only [Act.put, tA, tB, tC]
        refine wpK_tk (i := 12) (d := some 99) (v := ?_) rfl rfl (.inl ⟨by rfl, fun w hw => ?_⟩) ⟨x1, x2, x3, x4⟩ ?_
        rotate_left
        ·clear hw; go_simp; with_reducible rfl
        try simp only [Act.put, tA, tB, tC]
        refine wpK_tk (i := 13) (d := some 100) (v := ?_) rfl rfl (.inl ⟨by rfl, fun w hw => ?_⟩) ⟨x1, x2, x3, x4⟩ ?_
        rotate_left
        ·clear hw; go_simp; with_reducible rfl
        try simp only [Act.put, tA, tB, tC]
        refine wpK_tk (i := 14) (d := some 101) (v := ?_) rfl rfl (.inl ⟨by rfl, fun w hw => ?_⟩) ⟨x1, x2, x3, x4⟩ ?_
        rotate_left
        ·clear hw; go_simp; with_reducible rfl
        try simp only [Act.put, tA, tB, tC]
        refine wpK_tk (i := 15) (d := some 102) rfl rfl (yieldsIf_load_mid (by rfl) _ _ rfl (ro) (i * 10) rfl l3 _ (fun w h => h.2.2.1) Tryz.underlying81 rfl (by assumption)) ⟨x1, x2, x3, x4⟩ ?_
        try simp only [Act.put, tA, tB, tC]
        refine wpK_tk (i := 16) (d := some 103) (v := ?_) rfl rfl (.inl ⟨by rfl, fun w hw => ?_⟩) ⟨x1, x2, x3, x4⟩ ?_
        rotate_left
        ·clear hw; go_simp; with_reducible rfl
        try simp only [Act.put, tA, tB, tC]
        refine wpK_tk (i := 17) (d := some 104) (v := ?_) rfl rfl (.inl ⟨by rfl, fun w hw => ?_⟩) ⟨x1, x2, x3, x4⟩ ?_
        rotate_left
        ·clear hw; go_simp; with_reducible rfl
        try simp only [Act.put, tA, tB, tC]
        refine wpK_tk (i := 18) (d := some 105) (v := ?_) rfl rfl (.inl ⟨by rfl, fun w hw => ?_⟩) ⟨x1, x2, x3, x4⟩ ?_
        rotate_left
        ·clear hw; go_simp; with_reducible rfl
        try simp only [Act.put, tA, tB, tC]
        refine wpK_tk (i := 19) (d := some 106) rfl rfl (yieldsIf_load_mid (by rfl) _ _ rfl (W.heap.size) (k * 10) rfl l4 _ (fun w h => h.2.2.2) Tryz.underlying81 rfl (by assumption)) ⟨x1, x2, x3, x4⟩ ?_
        try simp only [Act.put, tA, tB, tC]
        refine wpK_one (i := 11) (by kernel_rfl) rfl rfl ?_
        go_simp
        refine (HT1.out _).mono ?_
        rintro e w1 ⟨rfl, hBw1⟩
        have x1 := range_via (range_via x1 ((Below.refl _ _).drew)) hBw1
        have x2 := range_via (range_via x2 ((Below.refl _ _).drew)) hBw1
        have x3 := range_via (range_via x3 ((Below.refl _ _).drew)) hBw1
        have x4 := range_via (range_via x4 ((Below.refl _ _).drew)) hBw1
        have hTM := (hTM.via ((Below.refl _ _).drew)).via hBw1
        have n1 := (n1.via ((Below.refl _ _).drew)).via hBw1
        have dv := (dv.via ((Below.refl _ _).drew)).via hBw1
        have nr := (nr.via ((Below.refl _ _).drew)).via hBw1
        have hB := belowB hBw1 (belowB ((Below.refl _ _).drew) hB HTB.out.2) HTB.out.2
        refine ⟨⟨x1, x2, x3, x4⟩, ?_⟩
        try simp only [Act.put, tA, tB, tC]
        refine wpK_one (i := 20) (by kernel_rfl) rfl rfl ?_
        go_simp
        refine (HT2.out _).mono ?_
        rintro e w2 ⟨rfl, hBw2⟩
        have x1 := range_via x1 hBw2
        have x2 := range_via x2 hBw2
        have x3 := range_via x3 hBw2
        have x4 := range_via x4 hBw2
        have hTM := hTM.via hBw2
        have n1 := n1.via hBw2
        have dv := dv.via hBw2
        have nr := nr.via hBw2
        have hB := belowB hBw2 hB HTB.out.2
        refine ⟨⟨x1, x2, x3, x4⟩, ?_⟩
        try simp only [Act.put, tA, tB, tC]
        refine wpK_one (i := 21) (by kernel_rfl) rfl rfl ?_
        go_simp
        refine (HMI.out _).mono ?_
        rintro e w3 ⟨rfl, hBw3⟩
        have x1 := range_via x1 hBw3
        have x2 := range_via x2 hBw3
        have x3 := range_via x3 hBw3
        have x4 := range_via x4 hBw3
        have hTM := hTM.via hBw3
        have n1 := n1.via hBw3
        have dv := dv.via hBw3
        have nr := nr.via hBw3
        have hB := belowB hBw3 hB HTB.out.2
        refine ⟨⟨x1, x2, x3, x4⟩, ?_⟩
        try simp only [Act.put, tA, tB, tC]
        refine wpK_one (i := 22) (by kernel_rfl) rfl rfl ?_
        go_simp
        refine (HDQ.out _ dv).mono ?_
        rintro e w4 ⟨rfl, hBw4⟩
        have x1 := range_via x1 hBw4
        have x2 := range_via x2 hBw4
        have x3 := range_via x3 hBw4
        have x4 := range_via x4 hBw4
        have hTM := hTM.via hBw4
        have n1 := n1.via hBw4
        have dv := dv.via hBw4
        have nr := nr.via hBw4
        have hB := belowB hBw4 hB HTB.out.2
        refine ⟨⟨x1, x2, x3, x4⟩, ?_⟩
        try simp only [Act.put, tA, tB, tC]
        refine wpK_tk (i := 23) (d := some 110) (v := ?_) rfl rfl (.inl ⟨by rfl, fun w hw => ?_⟩) ⟨x1, x2, x3, x4⟩ ?_
        rotate_left
        ·clear hw; go_simp; with_reducible rfl
        try simp only [Act.put, tA, tB, tC]
        refine wpK_store (i := 24) (by kernel_rfl) rfl rfl rfl (by kernel_rfl) (by kernel_rfl) _ _ _ rfl rk (i * 10) l8 rfl rfl (by rw [hl8]; exact num_there_at nr hir) hs8 ho8 ?_
        have ho : OnlyAt rk w4 (w4.setCells rk (i * 10) l8) := only_setCells _ _ _ _ _ (OnlyAt.refl _ _ (Array.getElem?_eq_some_iff.1 nr).1)
        have HN9 := Lib.hid (ho.num n1 (by omega))
        have HDV9 := Lib.hid (dv.only ho (by omega) (by omega))
        have HB9 := Lib.hid (ho.below hB hBrk)
        have HTM9 : Hid (TabM (w4.setCells rk (i * 10) l8) B n cols A ⟨s.mem, midR s.R R' o k (i + 1), s.d, sg == 0⟩ G) := Lib.hid (hTM.row HKN.out (by rw [← HRK.out]; exact ho) (midR s.R R' o k (i + 1)) HOTH.out (by rw [← HRK.out]; exact HST.out _ nr))
        clear ho n1 dv hB hTM nr HST HOTH HSET hs1 hs2 hs3 hs4 hs8 hl8 ho8 x1 x2 x3 x4 HT1 HT2 HMI HDQ hBw1 hBw2 hBw3 hBw4
        generalize w4.setCells rk (i * 10) l8 = w9 at *
        go_wp2_with fail
        go_roundw
        case rel => exact ⟨i + 1, by omega, by go_num, HTM9.out, HN9.out, HDV9.out, HB9.out⟩
        case measure => simp [intOf]; omega
       ·obtain rfl : m = i := by omega
        have HTM1 : Hid (TabM wr B n cols A ⟨s.mem, midR s.R R' o (k + 1) 0, s.d, sg == 0⟩ G) := Lib.hid (hTM.congr (fun _ _ => rfl) (fun r _ l hl => by show midR _ _ _ _ _ _ _ = midR _ _ _ _ _ _ _; rw [HM'.out]; exact (midR_next r l hl).symm) rfl rfl)
        have HF := Lib.hid n1
        have HDV := Lib.hid dv
        have HB := Lib.hid hB
        clear hTM n1 dv hB
        go_wp2_with fail
        go_roundw
        case rel => exact ⟨k + 1, by omega, by go_num, HTM1.out, HF.out, HDV.out, HB.out⟩
        case measure => simp [intOf]; omega
    ·obtain rfl : m = k := by omega
     obtain ⟨gm, hgm, hgT, hgg, hgr, hmm⟩ : ∃ gm, G.am = some ⟨gm, 0, none⟩ ∧ G.T < gm ∧ gm ≠ G.gr ∧ (∀ k, k ≤ n → G.rb k ≠ gm) ∧ ∀ k, k < n → wr.cell? ⟨gm, k, none⟩ = some (.int .i64 (s.mem k)) ∧ wr.frozen? ⟨gm, k, none⟩ = false := by
      rcases HTM.out.mem with h0 | h1
      ·omega
      ·exact h1
     have hTME : TabM wr B n cols A ⟨s.mem, R', s.d, sg == 0⟩ G := HTM.out.congr (fun _ _ => rfl) (fun r hr l hl => by show R' r l = midR _ _ _ _ _ _ _; rw [HM'.out]; exact (midR_all HRO2.out r l hr).symm) rfl rfl
     have hgmW : gm < W.heap.size := by
      rcases HH.out.lts.2.2.2 with h0 | ⟨g', e1, e2⟩
      ·omega
      ·rw [hgm] at e1; cases e1; exact e2
     obtain ⟨dm, df⟩ := hmm o HLE.out.lt
     have d1 := hTME.cms
     rw [HG.out.1, hgm, HG.out.2.2.2.2.1] at d1
     have xp := num_range_at HF.out (i := o) (by rw [rowOf_len]; have := HLE.out.lt; omega)
     rw [rowOf_get _ _ (by have := HLE.out.lt; omega)] at xp
     have hszp := sz_num (f o)
     have hlp := numL_len (f o)
     have hop := numL_one (f o)
     have hth : wr.there T 3 10 := fun z hz => by
      have h1 := hTME.com z (.int .u64 (wd s.d z)) (numL_get s.d hz)
      have h2 := hTME.fz (3 + z)
      rw [HG.out.1] at h1 h2
      exact ⟨by rw [h1]; rfl, h2⟩
     have hlast := (hTME.via (Below.refl wr.heap.size wr).drew).last HLE.out.lt hgm (q : Int) (f o)
     rw [HG.out.1] at hgT hlast
     have HLAST := Lib.hid hlast
     have ho : OnlyAt gm wr.drew (wr.drew.setCell ⟨gm, o, none⟩ (.int .i64 q)) := (OnlyAt.refl gm wr.drew (lt_of_cell dm)).set o _
     have hBT : B ≤ T := by have := HH.out.bT; rw [HG.out.1] at this; exact this
     have hTW := HSZW.out
     rw [HG.out.2.2.2.1] at hgm
     subst hgm
     clear hTME hlast hgg hgr hmm HTM
     obtain ⟨lp, hlpe⟩ : ∃ lp, lp = numL (f o) := ⟨_, rfl⟩
     rw [← hlpe] at xp hszp hlp hop HLAST
     have HLPE := Lib.hid hlpe
     clear hlpe
     go_upto_region 21 with fail
     refine wp_region_K (fun w' => w'.cell? ⟨T, 1, none⟩ = some (.slice (some ⟨gm, 0, none⟩) n cm) ∧ w'.rangeAt W.heap.size (o * 10) lp) 15 (by kernel_rfl) ?_
     refine wpK_tk (i := 0) (d := some 113) (v := ?_) rfl rfl (.inl ⟨by rfl, fun w hw => ?_⟩) ⟨d1, xp⟩ ?_
     rotate_left
     ·clear hw; go_simp; with_reducible rfl
     try simp only [Act.put, tA, tB, tC]
     refine wpK_tk (i := 1) (d := some 114) (v := ?_) rfl rfl (.inl ⟨by rfl, fun w hw => ?_⟩) ⟨d1, xp⟩ ?_
     rotate_left
     ·clear hw; go_simp; with_reducible rfl
     try simp only [Act.put, tA, tB, tC]
     refine wpK_tk (i := 2) (d := some 115) (v := ?_) rfl rfl (.inl ⟨by rfl, fun w hw => ?_⟩) ⟨d1, xp⟩ ?_
     rotate_left
     ·clear hw; go_simp; with_reducible rfl
     try simp only [Act.put, tA, tB, tC]
     refine wpK_tk (i := 3) (d := some 116) (v := ?_) rfl rfl (.inl ⟨by rfl, fun w hw => ?_⟩) ⟨d1, xp⟩ ?_
     rotate_left
     ·(obtain ⟨_, _⟩ := hw); go_simp; with_reducible rfl
     try simp only [Act.put, tA, tB, tC]
     refine wpK_tk (i := 4) (d := some 117) (v := ?_) rfl rfl (.inl ⟨by rfl, fun w hw => ?_⟩) ⟨d1, xp⟩ ?_
     rotate_left
     ·clear hw; go_simp; with_reducible rfl
     try simp only [Act.put, tA, tB, tC]
     refine wpK_tk (i := 5) (d := some 118) (v := ?_) rfl rfl (.inl ⟨by rfl, fun w hw => ?_⟩) ⟨d1, xp⟩ ?_
     rotate_left
     ·clear hw; go_simp; with_reducible rfl
     try simp only [Act.put, tA, tB, tC]
     refine wpK_tk (i := 6) (d := some 119) (v := ?_) rfl rfl (.inl ⟨by rfl, fun w hw => ?_⟩) ⟨d1, xp⟩ ?_
     rotate_left
     ·clear hw; go_simp; with_reducible rfl
     try simp only [Act.put, tA, tB, tC]
     refine wpK_tk (i := 7) (d := some 120) (v := ?_) rfl rfl (.inl ⟨by rfl, fun w hw => ?_⟩) ⟨d1, xp⟩ ?_
     rotate_left
     ·clear hw; go_simp; with_reducible rfl
     try simp only [Act.put, tA, tB, tC]
     refine wpK_tk (i := 8) (d := some 121) (v := ?_) rfl rfl (.inl ⟨by rfl, fun w hw => ?_⟩) ⟨d1, xp⟩ ?_
     rotate_left
     ·clear hw; go_simp; with_reducible rfl
     try simp only [Act.put, tA, tB, tC]
     refine wpK_tk (i := 9) (d := some 122) (v := ?_) rfl rfl (.inl ⟨by rfl, fun w hw => ?_⟩) ⟨d1, xp⟩ ?_
     rotate_left
     ·clear hw; go_simp; with_reducible rfl
     try simp only [Act.put, tA, tB, tC]
     refine wpK_tk (i := 10) (d := some 123) rfl rfl (yieldsIf_load_mid (by rfl) _ _ rfl (W.heap.size) (o * 10) rfl lp _ (fun w h => h.2) Tryz.underlying81 rfl (by assumption)) ⟨d1, xp⟩ ?_
     try simp only [Act.put, tA, tB, tC]
     refine wpK_tk (i := 11) (d := some 124) (v := ?_) rfl rfl (.inl ⟨by rfl, fun w hw => ?_⟩) ⟨d1, xp⟩ ?_
     rotate_left
     ·clear hw; go_simp; with_reducible rfl
     try simp only [Act.put, tA, tB, tC]
     refine wpK_set (i := 12) (by kernel_rfl) rfl rfl rfl _ _ _ rfl gm o (.int .i64 q) rfl rfl rfl (by show (wr.cell? _).isSome = true; rw [dm]; rfl) df (by kernel_rfl) rfl ?_
     have d1 := ho.cell (by omega) d1
     have xp := ho.range xp (by omega)
     have hth : (wr.drew.setCell ⟨gm, o, none⟩ (.int .i64 q)).there T 3 10 := fun z hz => ⟨by have := (hth z hz).1; obtain ⟨u, hu⟩ := Option.isSome_iff_exists.1 this; rw [ho.cell (by omega) hu]; rfl, ho.froz (hth z hz).2 (by omega)⟩
     refine ⟨(fun _ => ⟨d1, xp⟩), ?_⟩
     try simp only [Act.put, tA, tB, tC]
     refine wpK_oneY (i := 13) (d := some 125) (v := ?_) (by kernel_rfl) rfl rfl (.inl ⟨by rfl, fun w hw => ?_⟩) ⟨d1, xp⟩ ?_
     rotate_left
     ·clear hw; go_simp; with_reducible rfl
     try simp only [Act.put, tA, tB, tC]
     refine wpK_tk (i := 14) (d := some 126) (v := ?_) rfl rfl (.inl ⟨by rfl, fun w hw => ?_⟩) ⟨d1, xp⟩ ?_
     rotate_left
     ·clear hw; go_simp; with_reducible rfl
     try simp only [Act.put, tA, tB, tC]
     refine wpK_store (i := 15) (by kernel_rfl) rfl rfl rfl (by kernel_rfl) (by kernel_rfl) _ _ _ rfl T 3 lp rfl rfl (by rw [hlp]; exact hth) hszp hop ?_
     have HB9 : Hid (Below B W ((wr.drew.setCell ⟨gm, o, none⟩ (.int .i64 q)).setCells T 3 lp)) := Lib.hid (below_setCells T hBT lp _ 3 (ho.below (HB.out.drew) (by omega)))
     clear d1 xp hth hszp hlp hop ho dm df HB HF HDV
     generalize (wr.drew.setCell ⟨gm, o, none⟩ (.int .i64 q)).setCells T 3 lp = w9 at *
     go_wp2_with fail
     have eC : ∀ k, fall n s.R (sysC n A b q) k = f k := fun k => by rw [sysC_var, HFD.out]
     refine ⟨rfl, _, results_0 rfl _ _, ⟨rfl, _, ⟨o, ⟨HQ.out, by rw [eC, HFD.out]; exact HGA.out, fun hst j hj => by rw [sysC_var]; exact HBL.out hst j hj, HLE.out, HTIE.out, rfl⟩⟩, ?_⟩, HB9.out⟩
     exact HLAST.out.congr (s' := ⟨pivM s.mem q o, pivR n (sysC n A b) s.R s.d q o, fall n s.R (sysC n A b q) o, decide (s.R o n = 0)⟩) (fun _ _ => rfl) (fun k _ l _ => by show pivR _ _ _ _ _ _ _ _ = R' k l; rw [HRP.out]) (eC o) (by show decide _ = (sg == 0); rw [HSZ.out])
end
end Go.Proofs.YtofmjkgaaphnkaaGreatDoor
/- LinTabN: The contract of newTable. -/
namespace Go.Proofs.YtofmjkgaaphnkaaGreatDoor
open Go.RowKit Putlog

theorem inf_nums : (Tryz.prog.info? 77).map (fun i => (i.zero, i.size, i.bytes)) = some (some (.slice none 0 0), 1, 24) := by kernel_rfl
/-- A number of a row grows by another one. -/
theorem add_row {l : List Int} {i p g o : Nat} {y : Int} (W : World) (hz : NumB p (rowL l) W) (hi : i < l.length) (hy : ∀ j, j < 10 → W.cell? ⟨g, o + j, none⟩ = some (.int .u64 (wd y j))) (hne : g ≠ p) :
  Calls Tryz.prog 70 #[.pointer (some ⟨p, i * 10, none⟩), .pointer (some ⟨g, o, none⟩), .int .u64 1, .int .i64 (0 : Nat)] W fun e w' => e = .returned (.tuple #[]) ∧ NumB p (rowL (l.set i (l.getD i 0 + y))) w' ∧ OnlyAt p W w' := by
 have hz' := hz
 rw [rowL_split hi] at hz'
 have h := add_at (l.getD i 0) y 1 (rowL (l.take i)) (rowL (l.drop (i + 1))) 0 p g o W (by decide) (by decide) (by decide) hz' hy hne
 rw [rowL_pre hi, Int.pow_zero, Int.mul_one, Int.mul_one] at h
 rw [rowL_set hi]
 exact h
theorem colOfA_colL (s : SysP) (j : Nat) : colOfA s.rows.length (sysA s) j = colL s j := by
 apply List.ext_getElem?
 intro i
 by_cases h : i < s.rows.length
 ·have h1 := colOfA_get (n := s.rows.length) (sysA s) j h
  have h2 := colL_get s j i
  rw [List.getD_eq_getElem?_getD] at h1 h2
  rw [List.getElem?_eq_getElem (by rw [colOfA_len]; exact h)] at h1 ⊢
  rw [List.getElem?_eq_getElem (by rw [colL_len]; exact h)] at h2 ⊢
  congr 1
  exact h1.trans h2.symm
 ·rw [List.getElem?_eq_none (by rw [colOfA_len]; omega), List.getElem?_eq_none (by rw [colL_len]; omega)]
def rowV (n : Nat) (rb : Nat → Nat) (i : Nat) : Value := .slice (some ⟨rb i, 0, none⟩) (n + 1) (n + 1)
def allTo (n : Nat) (b : Nat → Int) (k : Nat) : List Int := rowOf n (fun _ l => sumZ (fun r => rowH n b r l) k) 0
theorem owns_below {w w' : World} {base : Nat} {e : TypeId} {size : Nat} {v : Value} {n : Nat} {xs : List Value} (h : w.ownsRow base e size v n xs) (hB : Below w.heap.size w w') : w'.ownsRow base e size v n xs := by
 refine ⟨h.1, ?_⟩
 rcases h.2 with h0 | ⟨g, cap, cur, hv, hb, hg, h1⟩
 ·exact .inl h0
 ·exact .inr ⟨g, cap, cur, hv, hb, heap_belowL hB hg, h1⟩
theorem owns_only {w w' : World} {base : Nat} {e : TypeId} {size : Nat} {v : Value} {n : Nat} {xs : List Value} {p : Nat} (h : w.ownsRow base e size v n xs) (ho : OnlyAt p w w') (hne : ∀ g, v.ownBlock = some g → g ≠ p) : w'.ownsRow base e size v n xs := by
 refine ⟨h.1, ?_⟩
 rcases h.2 with h0 | ⟨g, cap, cur, hv, hb, hg, h1⟩
 ·exact .inl h0
 ·exact .inr ⟨g, cap, cur, hv, hb, (ho.rest g (hne g (by rw [hv]; rfl))).trans hg, h1⟩
theorem owns_grown {w w' : World} {base : Nat} {e : TypeId} {size : Nat} {v u : Value} {n : Nat} {xs : List Value} (h : w.ownsRow base e size v n xs) (hg : w.grownBy w' u.ownBlock) (hne : ∀ g g', v.ownBlock = some g → u.ownBlock = some g' → g ≠ g') : w'.ownsRow base e size v n xs := by
 refine ⟨h.1, ?_⟩
 rcases h.2 with h0 | ⟨g, cap, cur, hv, hb, hh, h1⟩
 ·exact .inl h0
 ·exact .inr ⟨g, cap, cur, hv, hb, (hg.block g (Array.getElem?_eq_some_iff.1 hh).1 (fun e => hne g g (by rw [hv]; rfl) e.symm rfl)).trans hh, h1⟩
/-- A table under way. -/
structure NewM (w : World) (T al n : Nat) (b : Nat → Int) (k : Nat) (mv rv : Value) (rb : Nat → Nat) : Prop where
 c1 : w.cell? ⟨T, 1, none⟩ = some mv
 c2 : w.cell? ⟨T, 2, none⟩ = some rv
 om : w.ownsRow (al + 1) 3 1 mv k (intsV ((List.range k).map (startM n)))
 orr : w.ownsRow (al + 1) 77 1 rv k ((List.range k).map (rowV n rb))
 rows : ∀ i, i < k → NumB (rb i) (rowL (rowOf n (startR n b) i)) w ∧ al < rb i
 inj : ∀ i j, i < k → j < k → rb i = rb j → i = j
 dm : ∀ i, i < k → ∀ g, mv.ownBlock = some g → rb i ≠ g
 dr : ∀ i, i < k → ∀ g, rv.ownBlock = some g → rb i ≠ g
 dd : ∀ g g', mv.ownBlock = some g → rv.ownBlock = some g' → g ≠ g'
/-- What of a table stays. -/
structure FixM (w : World) (T gc cols n : Nat) (A : Nat → Nat → Int) : Prop where
 cc : w.cell? ⟨T, 0, none⟩ = some (.slice (some ⟨gc, 0, none⟩) cols cols)
 com : w.rangeAt T 3 (numL 1)
 stl : w.cell? ⟨T, 13, none⟩ = some (.bool false)
 fz : ∀ i, w.frozen? ⟨T, i, none⟩ = false
 col : ∀ j, j < cols → ∃ a c, w.cell? ⟨gc, j, none⟩ = some (.slice a n c) ∧ n ≤ c ∧ (c : Int) ≤ 9223372036854775807 ∧ IntsFrom w a (colOfA n A j) ∧ ∀ p o, a = some ⟨p, o, none⟩ → p < T
theorem FixM.via {w w' : World} {T gc cols n : Nat} {A : Nat → Nat → Int} (h : FixM w T gc cols n A) (hB : Below w.heap.size w w') : FixM w' T gc cols n A where
 cc := keptBelow hB h.cc
 com := range_via h.com hB
 stl := keptBelow hB h.stl
 fz := fun i => by rw [World.frozen?_of_block (hB.block T (lt_of_cell h.cc))]; exact h.fz i
 col := fun j hj => by
  obtain ⟨a, c, h1, h2, h3, h4, h5⟩ := h.col j hj
  exact ⟨a, c, keptBelow hB h1, h2, h3, h4.via hB, h5⟩
theorem FixM.only {w w' : World} {T gc cols n p : Nat} {A : Nat → Nat → Int} (h : FixM w T gc cols n A) (ho : OnlyAt p w w') (hp : T < p) (hgc : gc < T) : FixM w' T gc cols n A where
 cc := ho.cell (by omega) h.cc
 com := ho.range h.com (by omega)
 stl := ho.cell (by omega) h.stl
 fz := fun i => ho.froz (h.fz i) (by omega)
 col := fun j hj => by
  obtain ⟨a, c, h1, h2, h3, h4, h5⟩ := h.col j hj
  exact ⟨a, c, ho.cell (by omega) h1, h2, h3, ho.ints h4 (fun b o e => by have := h5 b o e; omega), h5⟩
/-- A cell of the table itself is set, or a row of the call's own grows. -/
theorem FixM.set {w : World} {T gc cols n i : Nat} {A : Nat → Nat → Int} {v : Value} (h : FixM w T gc cols n A) (hi : i = 1 ∨ i = 2) (hgc : gc < T) : FixM (w.setCell ⟨T, i, none⟩ v) T gc cols n A := by
 have ho : OnlyAt T w (w.setCell ⟨T, i, none⟩ v) := (OnlyAt.refl T w (lt_of_cell h.cc)).set i v
 have hc : ∀ o u, o ≠ i → w.cell? ⟨T, o, none⟩ = some u → (w.setCell ⟨T, i, none⟩ v).cell? ⟨T, o, none⟩ = some u := fun o u hne hu =>
  (World.cell?_setCell_other _ _ _ _ (by intro e; have := congrArg Addr.off e; dsimp only at this; omega)).trans hu
 refine ⟨hc 0 _ (by omega) h.cc, fun j u hu => hc (3 + j) u (by omega) (h.com j u hu), hc 13 _ (by omega) h.stl, fun o => by rw [World.frozen?_setCell]; exact h.fz o, fun j hj => ?_⟩
 obtain ⟨a, c, h1, h2, h3, h4, h5⟩ := h.col j hj
 exact ⟨a, c, ho.cell (by omega) h1, h2, h3, ho.ints h4 (fun b o e => by have := h5 b o e; omega), h5⟩
theorem FixM.grown {w w' : World} {T gc cols n : Nat} {A : Nat → Nat → Int} {v : Value} (h : FixM w T gc cols n A) (hg : w.grownBy w' v.ownBlock) (hv : ∀ k, v.ownBlock = some k → T < k) (hgc : gc < T) : FixM w' T gc cols n A := by
 have hT := lt_of_cell h.cc
 refine ⟨kept_own hg h.cc (fun k e => by have := hv k e; omega), fun j u hu => kept_own hg (h.com j u hu) (fun k e => by have := hv k e; omega), kept_own hg h.stl (fun k e => by have := hv k e; omega), fun i => ?_, fun j hj => ?_⟩
 ·rw [hg.frozen_far ⟨T, i, none⟩ hT (fun e => by have := hv T e.symm; omega)]; exact h.fz i
 ·obtain ⟨a, c, h1, h2, h3, h4, h5⟩ := h.col j hj
  refine ⟨a, c, kept_own hg h1 (fun k e => by have := hv k e; omega), h2, h3, ?_, h5⟩
  rcases h4 with h0 | ⟨p, o, q1, q2⟩
  ·exact .inl h0
  ·exact .inr ⟨p, o, q1, fun i hi => kept_own hg (q2 i hi) (fun k e => by have := hv k e; have := h5 p o q1; omega)⟩
theorem kept_num {w w' : World} {v : Value} (hg : w.grownBy w' v.ownBlock) {p : Nat} {l : List Value} (hc : NumB p l w) (hne : ∀ k, v.ownBlock = some k → p ≠ k) : NumB p l w' :=
 (hg.block p (Array.getElem?_eq_some_iff.1 hc).1 (fun e => hne p e.symm rfl)).trans hc
theorem NewM.via {w w' : World} {T al n : Nat} {b : Nat → Int} {k : Nat} {mv rv : Value} {rb : Nat → Nat} (h : NewM w T al n b k mv rv rb) (hB : Below w.heap.size w w') : NewM w' T al n b k mv rv rb where
 c1 := keptBelow hB h.c1
 c2 := keptBelow hB h.c2
 om := owns_below h.om hB
 orr := owns_below h.orr hB
 rows := fun i hi => ⟨(h.rows i hi).1.via hB, (h.rows i hi).2⟩
 inj := h.inj
 dm := h.dm
 dr := h.dr
 dd := h.dd
theorem NewM.only {w w' : World} {T al n p : Nat} {b : Nat → Int} {k : Nat} {mv rv : Value} {rb : Nat → Nat} (h : NewM w T al n b k mv rv rb) (ho : OnlyAt p w w') (hT : T ≠ p) (hm : ∀ g, mv.ownBlock = some g → g ≠ p) (hr : ∀ g, rv.ownBlock = some g → g ≠ p) (hrb : ∀ i, i < k → rb i ≠ p) : NewM w' T al n b k mv rv rb where
 c1 := ho.cell hT h.c1
 c2 := ho.cell hT h.c2
 om := owns_only h.om ho hm
 orr := owns_only h.orr ho hr
 rows := fun i hi => ⟨ho.num (h.rows i hi).1 (hrb i hi), (h.rows i hi).2⟩
 inj := h.inj
 dm := h.dm
 dr := h.dr
 dd := h.dd
theorem news_of_cell {w : World} {p : Nat} {v : Value} (h : w.cell? ⟨p, 0, none⟩ = some v) : ∀ j u, [v][j]? = some u → w.cell? ((⟨p, 0, none⟩ : Addr).add j) = some u
 | 0, u, e => by simp at e; subst e; exact h
 | j + 1, u, e => by simp at e
theorem one_slc (a : Option Addr) (n c : Nat) : ∀ u ∈ [Value.slice a n c], u.oneCell' = true := by intro u hu; simp at hu; subst hu; rfl
def rbN (rb : Nat → Nat) (k hb : Nat) : Nat → Nat := fun i => if i = k then hb else rb i
theorem new_dist {k q0 S0 gm gr h72 h79 T : Nat} {mv rv : Value} {rb : Nat → Nat} (HD : (∀ i, i < k → ∀ p, mv.ownBlock = some p → rb i ≠ p) ∧ (∀ i, i < k → ∀ p, rv.ownBlock = some p → rb i ≠ p) ∧ ∀ g g', mv.ownBlock = some g → rv.ownBlock = some g' → g ≠ g')
  (HOM : ∀ p, mv.ownBlock = some p → T + 1 < p ∧ p < q0) (HOR : ∀ p, rv.ownBlock = some p → T + 1 < p ∧ p < q0) (HRB : ∀ i, i < k → T + 1 < rb i ∧ rb i < q0) (h72' : mv.ownBlock = some gm ∨ gm = h72) (h79' : rv.ownBlock = some gr ∨ gr = h79)
  (h1 : q0 + 1 < S0) (h2 : S0 ≤ h72) (h3 : S0 ≤ h79) (h4 : gm < h79) (_h5 : q0 ≤ S0) : (∀ i, i < k + 1 → rbN rb k (q0 + 1) i ≠ gm) ∧ (∀ i, i < k + 1 → rbN rb k (q0 + 1) i ≠ gr) ∧ gm ≠ gr := by
 refine ⟨fun i hi => ?_, fun i hi => ?_, ?_⟩
 ·unfold rbN
  split
  ·rcases h72' with e | e
   ·have := HOM gm e; omega
   ·omega
  ·have hr := HRB i (by omega)
   rcases h72' with e | e
   ·exact HD.1 i (by omega) gm e
   ·omega
 ·unfold rbN
  split
  ·rcases h79' with e | e
   ·have := HOR gr e; omega
   ·omega
  ·have hr := HRB i (by omega)
   rcases h79' with e | e
   ·exact HD.2.1 i (by omega) gr e
   ·omega
 ·rcases h72' with e | e <;> rcases h79' with e2 | e2
  ·exact HD.2.2 gm gr e e2
  ·omega
  ·have := HOR gr e2; omega
  ·omega
theorem new_next {w : World} {T n k q0 hb gm gr : Nat} {b : Nat → Int} {mv rv mv' rv' : Value} {rb : Nat → Nat} (t1 : w.cell? ⟨T, 1, none⟩ = some mv) (t2 : w.cell? ⟨T, 2, none⟩ = some rv)
  (om2 : w.ownsRow (T + 1 + 1) 3 1 mv' (k + 1) (intsV ((List.range k).map (startM n)) ++ [.int .i64 ((k : Int) - n)])) (orr2 : w.ownsRow (T + 1 + 1) 77 1 rv' (k + 1) ((List.range k).map (rowV n rb) ++ [.slice (some ⟨hb, 0, none⟩) (n + 1) (n + 1)]))
  (hrows : ∀ i, i < k → NumB (rb i) (rowL (rowOf n (startR n b) i)) w) (hrb : ∀ i, i < k → T + 1 < rb i ∧ rb i < q0) (nh : NumB hb (rowL (rowOf n (startR n b) k)) w) (hbq : q0 ≤ hb) (hT : T + 1 < q0) (inj : ∀ i j, i < k → j < k → rb i = rb j → i = j)
  (e1 : mv'.ownBlock = some gm) (e2 : rv'.ownBlock = some gr) (hd : (∀ i, i < k + 1 → rbN rb k hb i ≠ gm) ∧ (∀ i, i < k + 1 → rbN rb k hb i ≠ gr) ∧ gm ≠ gr) (g1 : T < gm) (g2 : T < gr) :
  NewM ((w.setCell ⟨T, 1, none⟩ mv').setCell ⟨T, 2, none⟩ rv') T (T + 1) n b (k + 1) mv' rv' (rbN rb k hb) := by
 have ne12 : (⟨T, 1, none⟩ : Addr) ≠ ⟨T, 2, none⟩ := by intro e; have := congrArg Addr.off e; dsimp only at this; omega
 have s2 : (w.setCell ⟨T, 1, none⟩ mv').cell? ⟨T, 2, none⟩ = some rv := (World.cell?_setCell_other _ _ _ _ ne12).trans t2
 refine ⟨?_, World.cell?_setCell_same' _ _ _ (by rw [s2]; rfl), ?_, ?_, ?_, ?_, ?_, ?_, ?_⟩
 ·rw [World.cell?_setCell_other _ _ _ _ ne12.symm]
  exact World.cell?_setCell_same' _ _ _ (by rw [t1]; rfl)
 ·have := own_set (own_set om2 (p := T) (i := 1) (u := mv') (fun p e => by rw [e1] at e; cases e; omega)) (p := T) (i := 2) (u := rv') (fun p e => by rw [e1] at e; cases e; omega)
  rw [List.range_succ, List.map_append]
  unfold intsV at this ⊢
  rw [List.map_append]
  exact this
 ·have := own_set (own_set orr2 (p := T) (i := 1) (u := mv') (fun p e => by rw [e2] at e; cases e; omega)) (p := T) (i := 2) (u := rv') (fun p e => by rw [e2] at e; cases e; omega)
  rw [List.range_succ, List.map_append]
  have e : (List.range k).map (rowV n (rbN rb k hb)) = (List.range k).map (rowV n rb) := List.map_congr_left fun i hi => by
   have := List.mem_range.1 hi
   unfold rowV rbN; rw [if_neg (by omega)]
  rw [e]
  have e' : [k].map (rowV n (rbN rb k hb)) = [.slice (some ⟨hb, 0, none⟩) (n + 1) (n + 1)] := by unfold rowV rbN; simp
  rw [e']
  exact this
 ·intro i hi
  unfold rbN
  by_cases e : i = k
  ·subst e; rw [if_pos rfl]; exact ⟨(nh.other (by omega)).other (by omega), by omega⟩
  ·rw [if_neg e]
   have := hrb i (by omega)
   exact ⟨((hrows i (by omega)).other (by omega)).other (by omega), by omega⟩
 ·intro i j hi hj he
  unfold rbN at he
  by_cases e : i = k <;> by_cases e' : j = k
  ·omega
  ·rw [if_pos e, if_neg e'] at he; have := hrb j (by omega); omega
  ·rw [if_neg e, if_pos e'] at he; have := hrb i (by omega); omega
  ·rw [if_neg e, if_neg e'] at he; exact inj i j (by omega) (by omega) he
 ·intro i hi g hg; rw [e1] at hg; cases hg; exact hd.1 i hi
 ·intro i hi g hg; rw [e2] at hg; cases hg; exact hd.2.1 i hi
 ·intro g g' h1 h2; rw [e1] at h1; rw [e2] at h2; cases h1; cases h2; exact hd.2.2
theorem own_cell {w : World} {base : Nat} {e : TypeId} {g n c : Nat} {xs : List Value} (h : w.ownsRow base e 1 (.slice (some ⟨g, 0, none⟩) n c) n xs) {j : Nat} {v : Value} (hv : xs[j]? = some v) : w.cell? ⟨g, j, none⟩ = some v ∧ w.frozen? ⟨g, j, none⟩ = false := by
 rcases h.2 with ⟨h0, _⟩ | ⟨g', cap, cur, hs, hb, hg, h1, h2, h3, h4⟩
 ·cases h0
 ·cases hs
  have hj : j < n := by have := (List.getElem?_eq_some_iff.1 hv).1; have := h.1; omega
  refine ⟨?_, frozen_of_row w g j _ _ hg⟩
  rw [cell_of_row w g j cur _ (0, 0) hg, ← Array.getElem?_toList, ← hv, ← h4, List.getElem?_take_of_lt (by omega)]
theorem own_cap {w : World} {base : Nat} {e : TypeId} {g n c : Nat} {xs : List Value} (h : w.ownsRow base e 1 (.slice (some ⟨g, 0, none⟩) n c) n xs) : n ≤ c ∧ (c : Int) ≤ 9223372036854775807 ∧ base ≤ g := by
 rcases h.2 with ⟨h0, _⟩ | ⟨g', cap, cur, hs, hb, hg, h1, h2, h3, h4⟩
 ·cases h0
 ·cases hs; exact ⟨h1, by unfold maxLen at h2; omega, hb⟩
theorem range_map_get {α : Type} (f : Nat → α) {n k : Nat} (h : k < n) : ((List.range n).map f)[k]? = some (f k) := by rw [List.getElem?_map, List.getElem?_range h]; rfl
theorem new_tab {w : World} {B T gc cols n gr cr : Nat} {A : Nat → Nat → Int} {b : Nat → Int} {mv : Value} {rb : Nat → Nat} (hfx : FixM w T gc cols n A) (t1 : w.cell? ⟨T, 1, none⟩ = some mv) (t2 : w.cell? ⟨T, 2, none⟩ = some (.slice (some ⟨gr, 0, none⟩) (n + 1) cr))
  (om : w.ownsRow (T + 1 + 1) 3 1 mv n (intsV ((List.range n).map (startM n)))) (orr : w.ownsRow (T + 1 + 1) 77 1 (.slice (some ⟨gr, 0, none⟩) (n + 1) cr) (n + 1) ((List.range n).map (rowV n rb) ++ [.slice (some ⟨T + 1, 0, none⟩) (n + 1) (n + 1)]))
  (hrows : ∀ i, i < n → NumB (rb i) (rowL (rowOf n (startR n b) i)) w ∧ T + 1 < rb i) (hall : NumB (T + 1) (rowL (allTo n b n)) w) (inj : ∀ i j, i < n → j < n → rb i = rb j → i = j)
  (dm : ∀ i, i < n → ∀ g, mv.ownBlock = some g → rb i ≠ g) (dr : ∀ i, i < n → rb i ≠ gr) (dd : ∀ g, mv.ownBlock = some g → g ≠ gr) (hB : B ≤ T) (hgc : gc < T) :
  ∃ am cm, TabM w B n cols A (startS n b) ⟨T, gc, gr, am, cm, cr, rbN rb n (T + 1)⟩ := by
 have hmv : ∃ am cm, mv = .slice am n cm ∧ (n ≤ cm ∧ (cm : Int) ≤ 9223372036854775807) ∧ (n = 0 ∨ ∃ gm, am = some ⟨gm, 0, none⟩ ∧ T + 1 < gm ∧ ∀ k, k < n → w.cell? ⟨gm, k, none⟩ = some (.int .i64 (startM n k)) ∧ w.frozen? ⟨gm, k, none⟩ = false) := by
  rcases om.2 with ⟨h0, h1⟩ | ⟨g, cap, cur, hs, _⟩
  ·exact ⟨none, 0, by rw [h0, h1], by omega, .inl h1⟩
  ·subst hs
   obtain ⟨c1, c2, c3⟩ := own_cap om
   refine ⟨some ⟨g, 0, none⟩, cap, rfl, ⟨c1, c2⟩, .inr ⟨g, rfl, by omega, fun k hk => own_cell om (by unfold intsV; rw [List.map_map]; exact range_map_get _ hk)⟩⟩
 obtain ⟨am, cm, rfl, hcm, hmem⟩ := hmv
 obtain ⟨c1, c2, c3⟩ := own_cap orr
 refine ⟨am, cm, hB, hgc, by show T < gr; omega, hfx.cc, t1, t2, hfx.com, hfx.stl, hfx.fz, hcm, ⟨c1, c2⟩, hfx.col, ?_, ?_, ?_⟩
 ·rcases hmem with h0 | ⟨gm, rfl, h2, h3⟩
  ·exact .inl h0
  ·refine .inr ⟨gm, rfl, by show T < gm; omega, dd gm rfl, fun k hk => ?_, h3⟩
   show rbN rb n (T + 1) k ≠ gm
   unfold rbN
   split
   ·omega
   ·exact dm k (by omega) gm rfl
 ·intro k hk
  show w.cell? ⟨gr, k, none⟩ = some (.slice (some ⟨rbN rb n (T + 1) k, 0, none⟩) (n + 1) (n + 1)) ∧ NumB (rbN rb n (T + 1) k) (rowL (rowOf n (startR n b) k)) w ∧ T < rbN rb n (T + 1) k ∧ rbN rb n (T + 1) k ≠ gr
  unfold rbN
  by_cases e : k = n
  ·subst e
   rw [if_pos rfl]
   refine ⟨(own_cell orr (by simp)).1, ?_, by omega, by omega⟩
   have : rowOf k (startR k b) k = allTo k b k := by
    unfold allTo rowOf
    exact List.map_congr_left fun l _ => by unfold startR; rw [if_pos rfl]
   rw [this]; exact hall
  ·rw [if_neg e]
   have h1 := hrows k (by omega)
   refine ⟨(own_cell orr (j := k) ?_).1, h1.1, by omega, dr k (by omega)⟩
   rw [List.getElem?_append_left (by simp; omega)]
   exact range_map_get _ (by omega)
 ·intro k q hk hq he
  have he : rbN rb n (T + 1) k = rbN rb n (T + 1) q := he
  unfold rbN at he
  by_cases e : k = n <;> by_cases e' : q = n
  ·omega
  ·rw [if_pos e, if_neg e'] at he; have := (hrows q (by omega)).2; omega
  ·rw [if_neg e, if_pos e'] at he; have := (hrows k (by omega)).2; omega
  ·rw [if_neg e, if_neg e'] at he; exact inj k q (by omega) (by omega) he
theorem allTo_next (n : Nat) (b : Nat → Int) (k : Nat) : rowOf n (fun _ l => sumZ (fun r => rowH n b r l) k + (if l < n + 1 then rowH n b k l else 0)) 0 = allTo n b (k + 1) := rowOf_congr fun l hl => by rw [if_pos (by omega)]; rfl
def midA (n : Nat) (b : Nat → Int) (k i : Nat) : List Int := rowOf n (fun _ l => sumZ (fun r => rowH n b r l) k + (if l < i then rowH n b k l else 0)) 0
theorem midA_len (n : Nat) (b : Nat → Int) (k i : Nat) : (midA n b k i).length = n + 1 := rowOf_len ..
theorem midA_zero (n : Nat) (b : Nat → Int) (k : Nat) : midA n b k 0 = allTo n b k := rowOf_congr fun l _ => by rw [if_neg (by omega), Int.add_zero]
theorem midA_all (n : Nat) (b : Nat → Int) (k : Nat) : midA n b k (n + 1) = allTo n b (k + 1) := allTo_next n b k
theorem midA_set {n : Nat} (b : Nat → Int) (k : Nat) {i : Nat} (hi : i ≤ n) : (midA n b k i).set i ((midA n b k i).getD i 0 + rowH n b k i) = midA n b k (i + 1) := by
 have e0 : (midA n b k i).getD i 0 = sumZ (fun r => rowH n b r i) k := by
  unfold midA; rw [rowOf_get _ _ hi, if_neg (by omega), Int.add_zero]
 rw [e0]
 have := rowOf_set (n := n) (R := fun _ l => sumZ (fun r => rowH n b r l) k + (if l < i then rowH n b k l else 0)) (R' := fun _ l => sumZ (fun r => rowH n b r l) k + (if l < i + 1 then rowH n b k l else 0)) (k := 0) (i := i) hi (fun l _ => by
  show sumZ (fun r => rowH n b r l) k + (if l < i + 1 then rowH n b k l else 0) = if l = i then sumZ (fun r => rowH n b r i) k + (if i < i + 1 then rowH n b k i else 0) else sumZ (fun r => rowH n b r l) k + (if l < i then rowH n b k l else 0)
  by_cases e : l = i
  ·subst e; rw [if_pos rfl]
  ·rw [if_neg e]
   by_cases e2 : l < i
   ·rw [if_pos e2, if_pos (by omega)]
   ·rw [if_neg e2, if_neg (by omega)])
 rw [if_pos (by omega)] at this
 exact this
theorem rowOf_startR {n : Nat} (b : Nat → Int) {k : Nat} (hk : k < n) : rowOf n (rowH n b) k = rowOf n (startR n b) k := rowOf_congr fun l _ => by unfold startR; rw [if_neg (by omega)]
/-- A helper's row is zeros but for two numbers. -/
theorem helper_list {n : Nat} (b : Nat → Int) {k : Nat} (hk : k < n) : ((List.replicate (n + 1) 0).set k (sgV b k)).set n (sgV b k * b k) = rowOf n (startR n b) k := by
 rw [← rowOf_startR b hk, ← rowOf_zero]
 have h1 := rowOf_set (n := n) (R := fun _ _ => 0) (R' := fun _ l => if l = k then sgV b k else 0) (k := 0) (i := k) (by omega) (fun l _ => by
  show (if l = k then sgV b k else 0) = if l = k then (if k = k then sgV b k else 0) else 0
  rw [if_pos (rfl : k = k)])
 rw [if_pos rfl] at h1
 rw [h1]
 have h2 := rowOf_set (n := n) (R := fun _ l => if l = k then sgV b k else 0) (R' := fun _ l => rowH n b k l) (k := 0) (i := n) (Nat.le_refl _) (fun l _ => by
  show rowH n b k l = if l = n then rowH n b k n else if l = k then sgV b k else 0
  unfold rowH
  by_cases e : l = n
  ·subst e; rw [if_pos rfl, if_pos rfl]
  ·rw [if_neg e, if_neg e])
 have e : rowH n b k n = sgV b k * b k := by unfold rowH; rw [if_pos rfl]
 rw [e] at h2
 exact h2
set_option maxRecDepth 100000 in
set_option maxHeartbeats 16000000 in
theorem newTable_c (s : SysP) (a : Option Addr) (ca : Nat) (W : World) (hs : SysM W s a ca) (hv : ValidP s) :
  Calls Tryz.prog 37 #[.agg #[.int .i64 s.cols, .slice a s.rows.length ca]] W fun e w' => (∃ G : Geo, e = .returned (.pointer (some ⟨G.T, 0, none⟩)) ∧ TabM w' W.heap.size s.rows.length s.cols.toNat (sysA s) (startS s.rows.length (sysB s)) G) ∧ Below W.heap.size W w' := by
 obtain ⟨n, hn⟩ : ∃ n, n = s.rows.length := ⟨_, rfl⟩
 obtain ⟨c, hc⟩ : ∃ c : Nat, (c : Int) = s.cols := ⟨s.cols.toNat, by have := hv.lo; omega⟩
 have HS := Lib.hid hs
 have HV := Lib.hid hv
 have HCO := Lib.hid (fun w h => columns_c s a ca w h hv)
 have HWH := Lib.hid (fun w => whole_num 1 (by decide) (by decide) w)
 rw [num_one] at HWH
 obtain ⟨i0, hi0, hz0, hz1, hz2⟩ := info_numbers
 obtain ⟨j0, hj0, hy0, hy1, hy2⟩ := info_ex inf_int
 obtain ⟨l0, hl0, hx0, hx1, hx2⟩ := info_ex inf_nums
 have HI0 := Lib.hid hi0
 have HZ0 := Lib.hid hz0
 have HZ1 := Lib.hid hz1
 have HZ2 := Lib.hid hz2
 have HJ0 := Lib.hid hj0
 have HY0 := Lib.hid hy0
 have HY1 := Lib.hid hy1
 have HY2 := Lib.hid hy2
 have HL0 := Lib.hid hl0
 have HX0 := Lib.hid hx0
 have HX1 := Lib.hid hx1
 have HX2 := Lib.hid hx2
 have hc1 : (c : Int) ≤ 64 := by have := hv.hi; omega
 have hn1 : (n : Int) ≤ 18 := by have := hv.rows; omega
 have hca : (n : Int) ≤ ca := by have := hs.len; omega
 obtain ⟨m, hm⟩ : ∃ m, m = n + 1 := ⟨_, rfl⟩
 have hnm : (n : Int) < m := by omega
 have hm19 : (m : Int) ≤ 19 := by omega
 have hw1 : IntKind.i64.wrap ((n : Int) + 1) = m := by rw [IntKind.wrap_i64]; omega
 have HM' := Lib.hid hm
 rw [← hn, ← hc] at HCO
 rw [← hn, ← hc]
 rw [Int.toNat_natCast] at HCO ⊢
 have HN := Lib.hid hn
 have HC := Lib.hid hc
 have hb1 := alloc_belowL W (.cells #[.int .i64 c, .slice a n ca] 27)
 have g1 := heap_alloc_new W (.cells #[.int .i64 c, .slice a n ca] 27)
 have hs1 : (W.alloc (.cells #[.int .i64 c, .slice a n ca] 27)).heap.size = W.heap.size + 1 := by simp
 have HSZ := Lib.hid hs1
 have c1 : (W.alloc (.cells #[.int .i64 c, .slice a n ca] 27)).cell? ⟨W.heap.size, 1, none⟩ = some (.slice a n ca) := (cell_of_row _ _ 1 _ _ _ g1).trans rfl
 have c0 : (W.alloc (.cells #[.int .i64 c, .slice a n ca] 27)).cell? ⟨W.heap.size, 0, none⟩ = some (.int .i64 c) := (cell_of_row _ _ 0 _ _ _ g1).trans rfl
 have HB := Lib.hid hb1
 have HSM := Lib.hid (hs.via hb1)
 clear hs hv hn hc hi0 hz0 hz1 hz2 hj0 hy0 hy1 hy2 hl0 hx0 hx1 hx2 hb1 g1 hs1 hm
 go_enter Tryz.func37, Tryz.ntmps37
 go_upto_region 1 with fail
 change Code.wp _ _ _ _ (W.alloc (.cells #[.int .i64 c, .slice a n ca] 27))
 generalize W.alloc (.cells #[.int .i64 c, .slice a n ca] 27) = w0 at *
 go_wp2_with fail
 refine (HCO.out _ HSM.out).mono ?_
 rintro e w1 ⟨⟨gc, vs, rfl, hgc, hvl, hblk, hcol⟩, hB1⟩
 have HCB := Lib.hid (And.intro hgc (And.intro hvl (And.intro hblk hcol)))
 have c1 := keptBelow hB1 c1
 have hB1 := belowVia hB1 HB.out
 have HB1 := Lib.hid hB1
 clear hgc hvl hblk hcol hB1 HB HSM c0
 go_wp2_with fail
 refine (HWH.out _).mono ?_
 rintro e w2 ⟨rfl, hB2⟩
 have HB2 := Lib.hid hB2
 have c1 := keptBelow hB2 c1
 clear hB2
 go_upto_region 3 with fail
 obtain ⟨hgc, hvl, hblk, hcol⟩ := HCB.out
 have hbt := alloc_belowL w2 (.cells #[.slice (some ⟨gc, 0, none⟩) c c, .slice none 0 0, .slice none 0 0, .int .u64 1, .int .u64 0, .int .u64 0, .int .u64 0, .int .u64 0, .int .u64 0, .int .u64 0, .int .u64 0, .int .u64 0, .int .u64 0, .bool false] 103)
 have gt := heap_alloc_new w2 (.cells #[.slice (some ⟨gc, 0, none⟩) c c, .slice none 0 0, .slice none 0 0, .int .u64 1, .int .u64 0, .int .u64 0, .int .u64 0, .int .u64 0, .int .u64 0, .int .u64 0, .int .u64 0, .int .u64 0, .int .u64 0, .bool false] 103)
 have st : (w2.alloc (.cells #[.slice (some ⟨gc, 0, none⟩) c c, .slice none 0 0, .slice none 0 0, .int .u64 1, .int .u64 0, .int .u64 0, .int .u64 0, .int .u64 0, .int .u64 0, .int .u64 0, .int .u64 0, .int .u64 0, .int .u64 0, .bool false] 103)).heap.size = w2.heap.size + 1 := by simp
 obtain ⟨T, hT⟩ : ∃ T, T = w2.heap.size := ⟨_, rfl⟩
 rw [← hT] at gt st ⊢
 have hgcT : gc < T := by have := hblk.lt; have := HB2.out.size; omega
 have hfix : FixM (w2.alloc (.cells #[.slice (some ⟨gc, 0, none⟩) c c, .slice none 0 0, .slice none 0 0, .int .u64 1, .int .u64 0, .int .u64 0, .int .u64 0, .int .u64 0, .int .u64 0, .int .u64 0, .int .u64 0, .int .u64 0, .int .u64 0, .bool false] 103)) T gc c n (sysA s) := by
  refine ⟨(cell_of_row _ _ 0 _ _ _ gt).trans rfl, fun j v hv' => ?_, (cell_of_row _ _ 13 _ _ _ gt).trans rfl, fun i => frozen_of_row _ _ i _ _ gt, fun j hj => ?_⟩
  ·rw [cell_of_row _ _ (3 + j) _ _ _ gt]
   rw [num_one] at hv'
   have hj : j < 10 := by have := (List.getElem?_eq_some_iff.1 hv').1; simpa using this
   rcases (by omega : j = 0 ∨ j = 1 ∨ j = 2 ∨ j = 3 ∨ j = 4 ∨ j = 5 ∨ j = 6 ∨ j = 7 ∨ j = 8 ∨ j = 9) with rfl | rfl | rfl | rfl | rfl | rfl | rfl | rfl | rfl | rfl <;> exact hv'
  ·obtain ⟨a', c', q1, q2, q3, q4, q5⟩ := hcol j (by rw [← hvl]; rw [hvl]; exact hj)
   have hB12 := belowVia hbt HB2.out
   refine ⟨a', c', keptBelow hB12 (hblk.cell ?_), q2, q3, ?_, fun p o e => by have := (q5 p o e).2; have := HB2.out.size; omega⟩
   ·rw [← q1, List.getD_eq_getElem?_getD, List.getElem?_eq_getElem (by omega)]; rfl
   ·rw [HN.out, colOfA_colL]; exact q4.via hB12
 have hnew : NewM (w2.alloc (.cells #[.slice (some ⟨gc, 0, none⟩) c c, .slice none 0 0, .slice none 0 0, .int .u64 1, .int .u64 0, .int .u64 0, .int .u64 0, .int .u64 0, .int .u64 0, .int .u64 0, .int .u64 0, .int .u64 0, .int .u64 0, .bool false] 103)) T (T + 1) n (sysB s) 0 (.slice none 0 0) (.slice none 0 0) (fun _ => 0) := by
  refine ⟨(cell_of_row _ _ 1 _ _ _ gt).trans rfl, (cell_of_row _ _ 2 _ _ _ gt).trans rfl, World.ownsRow_nil _ _ _ _, World.ownsRow_nil _ _ _ _, fun i hi => by omega, fun i j hi _ _ => by omega, fun i hi => by omega, fun i hi => by omega, fun g g' e => by cases e⟩
 have c1 := keptBelow hbt c1
 have HBT := Lib.hid (belowVia hbt (belowVia HB2.out HB1.out))
 have HWT : Hid (W.heap.size < T) := Lib.hid (by have := HB2.out.size; have := hblk.lt; have := HSZ.out; omega)
 have HFX := Lib.hid hfix
 have HNW := Lib.hid hnew
 have HST := Lib.hid st
 clear hbt gt hfix hnew hT hgc hvl hblk hcol st
 generalize w2.alloc (.cells #[.slice (some ⟨gc, 0, none⟩) c c, .slice none 0 0, .slice none 0 0, .int .u64 1, .int .u64 0, .int .u64 0, .int .u64 0, .int .u64 0, .int .u64 0, .int .u64 0, .int .u64 0, .int .u64 0, .int .u64 0, .bool false] 103) = wt at *
 go_wp2_with (at_make; go_must (refine wpList_make_full _ rfl _ _ 77 rfl wt.heap.size 81 i0 (.agg zeroL.toArray) 10 Tryz.underlying77 HI0.out HZ0.out HZ1.out .i64 .i64 (m : Int) (m : Int) m rfl rfl rfl rfl (by rw [HZ2.out]; omega) (by unfold maxLen; omega) (Nat.le_refl _) ?_); intro w3 hown hgrow; have HR := Lib.hid (num_made hown); have hBm := belowMadeL hgrow; have HB3 := Lib.hid (belowVia hBm HBT.out); have c1 := keptBelow hBm c1; have HFX3 := Lib.hid (HFX.out.via hBm); have HNW3 := Lib.hid (HNW.out.via hBm); clear hown hgrow hBm)
 rw [HST.out] at HR ⊢
 have hall0 : List.replicate m 0 = allTo n (sysB s) 0 := by rw [HM'.out, ← rowOf_zero]; rfl
 rw [hall0] at HR
 clear hall0 HBT HFX HNW HB2 HB1 HCB
 go_loopw [25] (fun i wr => ∃ k : Nat, k ≤ n ∧ i = .int .i64 k ∧ (∃ mv rv rb, NewM wr T (T + 1) n (sysB s) k mv rv rb) ∧ FixM wr T gc c n (sysA s) ∧ NumB (T + 1) (rowL (allTo n (sysB s) k)) wr ∧ wr.cell? ⟨W.heap.size, 1, none⟩ = some (.slice a n ca) ∧ Below W.heap.size W wr) (fun i _ => n - (intOf i).toNat)
 case atStart => exact ⟨0, by omega, rfl, ⟨_, _, _, HNW3.out⟩, HFX3.out, HR.out, c1, HB3.out⟩
 case round =>
  clear HNW3 HFX3 HR c1 HB3
  obtain ⟨k, hk, rfl, ⟨mv, rv, rb, hnw⟩, hfx, hall, c1, hB⟩ := hrel
  have HNW := Lib.hid hnw
  have HFX := Lib.hid hfx
  have HALL := Lib.hid hall
  have HB := Lib.hid hB
  clear hnw hfx hall
  by_cases hlt : k < n
  ·have hlt' : (k : Int) < n := by omega
   have hkm : (k : Int) < m := by omega
   have hkl : k < s.rows.length := by have := HN.out; omega
   obtain ⟨g, o, rfl, hr⟩ := HS.out.row hkl
   obtain ⟨ra, rc, e0, e1, e2, e3, e4⟩ := hr.ex
   have e0 := keptBelow hB e0
   have e1 := keptBelow hB e1
   have hvb := HV.out.val _ (getD_memR hkl)
   have hvs : sysB s k = (s.rows.getD k ([], 0)).2 := rfl
   obtain ⟨rl, hrl⟩ : ∃ rl, rl = (s.rows.getD k ([], 0)).1.length := ⟨_, rfl⟩
   rw [← hrl] at e0
   rw [← hvs] at e1 hvb
   obtain ⟨v, hvv⟩ : ∃ v, v = sysB s k := ⟨_, rfl⟩
   rw [← hvv] at e1 hvb
   have HVV := Lib.hid hvv
   clear hkl hr e2 e3 e4 hvs hrl hvv
   have hby := alloc_belowL wr (.cells #[.slice ra rl rc, .int .i64 v] 60)
   have gby := heap_alloc_new wr (.cells #[.slice ra rl rc, .int .i64 v] 60)
   have sby : (wr.alloc (.cells #[.slice ra rl rc, .int .i64 v] 60)).heap.size = wr.heap.size + 1 := by simp
   have d1 : (wr.alloc (.cells #[.slice ra rl rc, .int .i64 v] 60)).cell? ⟨wr.heap.size, 1, none⟩ = some (.int .i64 v) := (cell_of_row _ _ 1 _ _ _ gby).trans rfl
   have c1' := keptBelow hby c1
   have HNW2 := Lib.hid (HNW.out.via hby)
   have HFX2 := Lib.hid (HFX.out.via hby)
   have HALL2 := Lib.hid (HALL.out.via hby)
   have HB2 := Lib.hid (belowVia hby hB)
   have HRB : Hid (∀ i, i < k → T + 1 < rb i ∧ rb i < wr.heap.size) := Lib.hid (fun i hi => ⟨(HNW.out.rows i hi).2, (Array.getElem?_eq_some_iff.1 (HNW.out.rows i hi).1).1⟩)
   have HOM : Hid (∀ p, mv.ownBlock = some p → T + 1 < p ∧ p < wr.heap.size) := Lib.hid (fun p e => own_lt HNW.out.om p e)
   have HOR : Hid (∀ p, rv.ownBlock = some p → T + 1 < p ∧ p < wr.heap.size) := Lib.hid (fun p e => own_lt HNW.out.orr p e)
   have HD := Lib.hid (And.intro HNW.out.dm (And.intro HNW.out.dr HNW.out.dd))
   have HINJ := Lib.hid HNW.out.inj
   have HQ0 : Hid (T + 1 < wr.heap.size) := Lib.hid (Array.getElem?_eq_some_iff.1 HALL.out).1
   have HGT : Hid (gc < T) := Lib.hid hgcT
   clear hby gby hB HNW HFX HALL HB
   obtain ⟨sg, hsg⟩ : ∃ sg, sg = sgV (sysB s) k := ⟨_, rfl⟩
   have HSP : Hid ((v < 0 → sg = -1) ∧ (¬ v < 0 → sg = 1)) := Lib.hid (by rw [hsg]; unfold sgV; rw [← HVV.out]; exact ⟨fun h => if_pos h, fun h => if_neg h⟩)
   have HSG := Lib.hid hsg
   clear hsg
   go_upto_if 32 with fail
   generalize wr.alloc (.cells #[.slice ra rl rc, .int .i64 v] 60) = wb at *
   generalize wr.heap.size = q0 at *
   go_cut [8] (fun s8 wx => s8 = .int .i64 sg ∧ wx = wb)
   case first =>
    by_cases hv0 : v < 0
    ·obtain rfl := HSP.out.1 hv0
     go_wp2_with fail
     go_meet
     case rel => exact ⟨rfl, rfl⟩
    ·obtain rfl := HSP.out.2 hv0
     go_wp2_with fail
     go_meet
     case rel => exact ⟨rfl, rfl⟩
   case rest =>
    obtain ⟨rfl, hwx⟩ := hcut
    obtain rfl := hwx.symm
    have hsb : -1 ≤ sg ∧ sg ≤ 1 ∧ (sg * v = v ∨ sg * v = -v) := by
     by_cases hv0 : v < 0
     ·rw [HSP.out.1 hv0]; omega
     ·rw [HSP.out.2 hv0]; omega
    have HW1 := Lib.hid (fun w => whole_num sg (by omega) (by omega) w)
    have HW2 := Lib.hid (fun w => whole_num (sg * v) (by omega) (by omega) w)
    obtain ⟨y, hy⟩ : ∃ y, y = sg * v := ⟨_, rfl⟩
    rw [← hy] at HW2
    have hw2 : IntKind.i64.wrap (sg * v) = y := by rw [hy, IntKind.wrap_i64]; omega
    have hw3 : wrap64 (sg * v) = y := by rw [hy]; unfold wrap64; omega
    have HHL := Lib.hid (helper_list (sysB s) (k := k) hlt)
    rw [← HSG.out, ← HVV.out, ← hy] at HHL
    clear hsb hy
    go_wp2_with (at_make; go_must (refine wpList_make_full _ rfl _ _ 77 rfl wb.heap.size 81 i0 (.agg zeroL.toArray) 10 Tryz.underlying77 HI0.out HZ0.out HZ1.out .i64 .i64 (m : Int) (m : Int) m rfl rfl rfl rfl (by rw [HZ2.out]; omega) (by unfold maxLen; omega) (Nat.le_refl _) ?_); intro wc hown hgrow; have hnh := num_made hown; have hBm := belowMadeL hgrow; clear hown hgrow; rw [sby] at hnh; rw [sby]; have hnh2 := hnh; rw [HM'.out] at hnh2; have HNH := Lib.hid hnh2; have hsz : q0 + 1 < wc.heap.size := (Array.getElem?_eq_some_iff.1 hnh).1; clear hnh hnh2)
    have d1 := keptBelow hBm d1
    have c1 := keptBelow hBm c1'
    have hnw := HNW2.out.via hBm
    have hfx := HFX2.out.via hBm
    have hall := HALL2.out.via hBm
    have hB := belowVia hBm HB2.out
    have nh := HNH.out
    have hkh : k < (List.replicate (n + 1) (0 : Int)).length := by rw [List.length_replicate]; omega
    have hnh : n < ((List.replicate (n + 1) (0 : Int)).set k sg).length := by rw [List.length_set, List.length_replicate]; omega
    have HST1 := Lib.hid (fun w h => (store_row (w := w) (g := q0 + 1) h hkh sg).2)
    have HST2 := Lib.hid (fun w h => (store_row (w := w) (g := q0 + 1) h hnh y).2)
    have hsz1 := sz_num sg
    have hsz2 := sz_num y
    have hl1 := numL_len sg
    have hl2 := numL_len y
    have ho1 := numL_one sg
    have ho2 := numL_one y
    clear hBm c1' HNW2 HFX2 HALL2 HB2 HNH e0 e1
    generalize numL sg = l1 at *
    generalize numL y = l2 at *
    generalize hL0 : List.replicate (n + 1) (0 : Int) = L0 at *
    go_upto_region 11 with fail
    refine wp_region_K (fun w' => w'.cell? ⟨q0, 1, none⟩ = some (.int .i64 v)) 14 (by kernel_rfl) ?_
    refine wpK_tk (i := 0) (d := some 36) (v := ?_) rfl rfl (.inl ⟨by rfl, fun w hw => ?_⟩) d1 ?_
    rotate_left
    ·clear hw; go_simp; with_reducible rfl
    try simp only [Act.put, tA, tB, tC]
    refine wpK_tk (i := 1) (d := some 37) (v := ?_) rfl rfl (.inl ⟨by rfl, fun w hw => ?_⟩) d1 ?_
    rotate_left
    ·clear hw; go_simp; with_reducible rfl
    try simp only [Act.put, tA, tB, tC]
    refine wpK_tk (i := 2) (d := some 38) (v := ?_) rfl rfl (.inl ⟨by rfl, fun w hw => ?_⟩) d1 ?_
    rotate_left
    ·clear hw; go_simp; with_reducible rfl
    try simp only [Act.put, tA, tB, tC]
    refine wpK_tk (i := 3) (d := some 39) (v := ?_) rfl rfl (.inl ⟨by rfl, fun w hw => ?_⟩) d1 ?_
    rotate_left
    ·clear hw; go_simp; with_reducible rfl
    try simp only [Act.put, tA, tB, tC]
    refine wpK_tk (i := 4) (d := some 40) (v := ?_) rfl rfl (.inl ⟨by rfl, fun w hw => ?_⟩) d1 ?_
    rotate_left
    ·clear hw; go_simp; with_reducible rfl
    try simp only [Act.put, tA, tB, tC]
    refine wpK_tk (i := 6) (d := some 42) (v := ?_) rfl rfl (.inl ⟨by rfl, fun w hw => ?_⟩) d1 ?_
    rotate_left
    ·clear hw; go_simp; with_reducible rfl
    try simp only [Act.put, tA, tB, tC]
    refine wpK_tk (i := 7) (d := some 43) (v := ?_) rfl rfl (.inl ⟨by rfl, fun w hw => ?_⟩) d1 ?_
    rotate_left
    ·clear hw; go_simp; with_reducible rfl
    try simp only [Act.put, tA, tB, tC]
    refine wpK_tk (i := 8) (d := some 44) (v := ?_) rfl rfl (.inl ⟨by rfl, fun w hw => ?_⟩) d1 ?_
    rotate_left
    ·(skip); go_simp; with_reducible rfl
    try simp only [Act.put, tA, tB, tC]
    refine wpK_tk (i := 9) (d := some 45) (v := ?_) rfl rfl (.inl ⟨by rfl, fun w hw => ?_⟩) d1 ?_
    rotate_left
    ·clear hw; go_simp; with_reducible rfl
    try simp only [Act.put, tA, tB, tC]
    refine wpK_one (i := 5) (by kernel_rfl) rfl rfl ?_
    go_simp
    refine (HW1.out _).mono ?_
    rintro e w1 ⟨rfl, hBw1⟩
    have d1 := keptBelow hBw1 (keptBelow ((Below.refl _ _).drew) d1)
    have c1 := keptBelow hBw1 (keptBelow ((Below.refl _ _).drew) c1)
    have hB := belowVia hBw1 (belowVia ((Below.refl _ _).drew) hB)
    have hnw := (hnw.via ((Below.refl _ _).drew)).via hBw1
    have hfx := (hfx.via ((Below.refl _ _).drew)).via hBw1
    have hall := (hall.via ((Below.refl _ _).drew)).via hBw1
    have nh := (nh.via ((Below.refl _ _).drew)).via hBw1
    refine ⟨d1, ?_⟩
    try simp only [Act.put, tA, tB, tC]
    refine wpK_one (i := 10) (by kernel_rfl) rfl rfl ?_
    go_simp
    refine (HW2.out _).mono ?_
    rintro e w2 ⟨rfl, hBw2⟩
    have d1 := keptBelow hBw2 d1
    have c1 := keptBelow hBw2 c1
    have hB := belowVia hBw2 hB
    have hnw := hnw.via hBw2
    have hfx := hfx.via hBw2
    have hall := hall.via hBw2
    have nh := nh.via hBw2
    refine ⟨d1, ?_⟩
    try simp only [Act.put, tA, tB, tC]
    refine wpK_tk (i := 11) (d := some 47) (v := ?_) rfl rfl (.inl ⟨by rfl, fun w hw => ?_⟩) d1 ?_
    rotate_left
    ·clear hw; go_simp; with_reducible rfl
    try simp only [Act.put, tA, tB, tC]
    refine wpK_setN (i := 12) (by kernel_rfl) rfl rfl rfl _ _ _ rfl (q0 + 1) (k * 10) l1 rfl rfl (by rw [hl1]; exact num_there_at nh hkh) hsz1 ho1 ?_
    have ho := only_setCells (q0 + 1) l1 w2 w2 (k * 10) (OnlyAt.refl _ _ (Array.getElem?_eq_some_iff.1 nh).1)
    have d1 := ho.cell (by omega) d1
    have nh2 := HST1.out _ nh
    refine ⟨(fun _ => d1), ?_⟩
    try simp only [Act.put, tA, tB, tC]
    refine wpK_tk (i := 13) (d := some 48) (v := ?_) rfl rfl (.inl ⟨by rfl, fun w hw => ?_⟩) d1 ?_
    rotate_left
    ·clear hw; go_simp; with_reducible rfl
    try simp only [Act.put, tA, tB, tC]
    refine wpK_store (i := 14) (by kernel_rfl) rfl rfl rfl (by kernel_rfl) (by kernel_rfl) _ _ _ rfl (q0 + 1) (n * 10) l2 rfl rfl (by rw [hl2]; exact num_there_at nh2 hnh) hsz2 ho2 ?_
    have ho := only_setCells (q0 + 1) l2 w2 _ (n * 10) ho
    have HNH : Hid (NumB (q0 + 1) (rowL (rowOf n (startR n (sysB s)) k)) ((w2.setCells (q0 + 1) (k * 10) l1).setCells (q0 + 1) (n * 10) l2)) := Lib.hid (by rw [← HHL.out]; exact HST2.out _ nh2)
    have HNW := Lib.hid (hnw.only ho (by have := HQ0.out; omega) (fun p e => by have := HOM.out p e; omega) (fun p e => by have := HOR.out p e; omega) (fun i hi => by have := HRB.out i hi; omega))
    have HFX := Lib.hid (hfx.only ho (by have := HQ0.out; omega) HGT.out)
    have HALL := Lib.hid (ho.num hall (by have := HQ0.out; omega))
    have HC1 := Lib.hid (ho.cell (by have := HQ0.out; have := HWT.out; omega) c1)
    have HB := Lib.hid (ho.below hB (by have := HQ0.out; have := HWT.out; omega))
    clear ho hnw hfx hall c1 hB nh nh2 HST1 HST2 hsz1 hsz2 hl1 hl2 ho1 ho2 d1 HW1 HW2 hkh hnh hBw1 hBw2 hL0 hw2 hw3 hsz
    generalize (w2.setCells (q0 + 1) (k * 10) l1).setCells (q0 + 1) (n * 10) l2 = w9 at *
    go_wp2_with fail
    go_loopw [51] (fun ix wx => ∃ i : Nat, i ≤ m ∧ ix = .int .i64 i ∧ NumB (T + 1) (rowL (midA n (sysB s) k i)) wx ∧ NumB (q0 + 1) (rowL (rowOf n (startR n (sysB s)) k)) wx ∧ NewM wx T (T + 1) n (sysB s) k mv rv rb ∧ FixM wx T gc c n (sysA s) ∧ wx.cell? ⟨W.heap.size, 1, none⟩ = some (.slice (some ⟨g, o, none⟩) n ca) ∧ Below W.heap.size W wx) (fun ix _ => m - (intOf ix).toNat)
    case atStart => exact ⟨0, by omega, rfl, by rw [midA_zero]; exact HALL.out, HNH.out, HNW.out, HFX.out, HC1.out, HB.out⟩
    case round =>
     clear HALL HNH HNW HFX HC1 HB
     obtain ⟨i, hi, rfl, hmid, nh, hnw, hfx, c1, hB⟩ := hrel
     by_cases hit : i < m
     ·have hit' : (i : Int) < m := by omega
      have hin : i ≤ n := by have := HM'.out; omega
      have hil : i < (midA n (sysB s) k i).length := by rw [midA_len]; omega
      have hyy : ∀ j, j < 10 → wr.cell? ⟨q0 + 1, i * 10 + j, none⟩ = some (.int .u64 (wd (rowH n (sysB s) k i) j)) := fun j hj => by
       have := nh.cell (rowL_get (l := rowOf n (startR n (sysB s)) k) (i := i) (by rw [rowOf_len]; omega) hj)
       rw [rowOf_get _ _ hin] at this
       unfold startR at this
       rw [if_neg (by omega)] at this
       exact this
      have HAD := Lib.hid (fun w hz hy => add_row (l := midA n (sysB s) k i) (i := i) (p := T + 1) (g := q0 + 1) (o := i * 10) (y := rowH n (sysB s) k i) w hz hil hy (by have := HQ0.out; omega))
      rw [midA_set (sysB s) k hin] at HAD
      clear hin hil
      go_upto_region 15 with fail
      refine wp_region_K (fun _ => True) 6 (by kernel_rfl) ?_
      refine wpK_takeP (i := 0) (d := some 54) (v := ?_) rfl (by kernel_rfl) (by kernel_rfl) (by kernel_rfl) (by kernel_rfl) rfl (fun _ _ _ h => h) (.inl ⟨by rfl, fun w hw => ?_⟩) (fun h => trivial) ?_
      rotate_left
      ·clear hw; go_simp; with_reducible rfl
      try simp only [Act.put, tA, tB, tC]
      refine wpK_takeP (i := 1) (d := some 55) (v := ?_) rfl (by kernel_rfl) (by kernel_rfl) (by kernel_rfl) (by kernel_rfl) rfl (fun _ _ _ h => h) (.inl ⟨by rfl, fun w hw => ?_⟩) (fun h => trivial) ?_
      rotate_left
      ·clear hw; go_simp; with_reducible rfl
      try simp only [Act.put, tA, tB, tC]
      refine wpK_tk (i := 2) (d := some 56) (v := ?_) rfl rfl (.inl ⟨by rfl, fun w hw => ?_⟩) trivial ?_
      rotate_left
      ·clear hw; go_simp; with_reducible rfl
      try simp only [Act.put, tA, tB, tC]
      refine wpK_takeP (i := 3) (d := some 57) (v := ?_) rfl (by kernel_rfl) (by kernel_rfl) (by kernel_rfl) (by kernel_rfl) rfl (fun _ _ _ h => h) (.inl ⟨by rfl, fun w hw => ?_⟩) (fun h => trivial) ?_
      rotate_left
      ·clear hw; go_simp; with_reducible rfl
      try simp only [Act.put, tA, tB, tC]
      refine wpK_takeP (i := 4) (d := some 58) (v := ?_) rfl (by kernel_rfl) (by kernel_rfl) (by kernel_rfl) (by kernel_rfl) rfl (fun _ _ _ h => h) (.inl ⟨by rfl, fun w hw => ?_⟩) (fun h => trivial) ?_
      rotate_left
      ·clear hw; go_simp; with_reducible rfl
      try simp only [Act.put, tA, tB, tC]
      refine wpK_tk (i := 5) (d := some 59) (v := ?_) rfl rfl (.inl ⟨by rfl, fun w hw => ?_⟩) trivial ?_
      rotate_left
      ·clear hw; go_simp; with_reducible rfl
      try simp only [Act.put, tA, tB, tC]
      refine wpK_one (i := 6) (by kernel_rfl) rfl rfl ?_
      go_simp
      refine (HAD.out _ ?_ ?_).mono ?_
      exact hmid
      exact hyy
      rintro e w3 ⟨rfl, hmid2, ho⟩
      try simp only [Act.put, tA, tB, tC]
      refine wpK_done (by kernel_rfl) ?_ _
      have HMID := Lib.hid hmid2
      have HNH := Lib.hid (ho.num (nh.via (Below.refl _ _).drew) (by have := HQ0.out; omega))
      have HNW := Lib.hid ((hnw.via (Below.refl _ _).drew).only ho (by omega) (fun p e => by have := HOM.out p e; omega) (fun p e => by have := HOR.out p e; omega) (fun i hi => by have := HRB.out i hi; omega))
      have HFX := Lib.hid ((hfx.via (Below.refl _ _).drew).only ho (by omega) HGT.out)
      have HC1 := Lib.hid (ho.cell (by have := HWT.out; omega) (keptBelow (Below.refl wr.heap.size wr).drew c1))
      have HB := Lib.hid (ho.below hB.drew (by have := HWT.out; omega))
      clear hmid2 ho nh hnw hfx c1 hB hmid hyy HAD
      go_wp2_with fail
      go_roundw
      case rel => exact ⟨i + 1, by omega, by go_num, HMID.out, HNH.out, HNW.out, HFX.out, HC1.out, HB.out⟩
      case measure => simp [intOf]; omega
     ·obtain rfl : m = i := by omega
      rw [HM'.out, midA_all] at hmid
      have hdr := (Below.refl wr.heap.size wr).drew
      have t1 := keptBelow hdr hnw.c1
      have t2 := keptBelow hdr hnw.c2
      have om := owns_below hnw.om hdr
      have orr := owns_below hnw.orr hdr
      have hrows := fun i hi => (hnw.rows i hi).1.via hdr
      have hfx := hfx.via hdr
      have hall := hmid.via hdr
      have nh := nh.via hdr
      have c1 := keptBelow hdr c1
      have hB := hB.drew
      obtain ⟨S0, hS0⟩ : ∃ S0, S0 = wr.drew.heap.size := ⟨_, rfl⟩
      have hqS : q0 + 1 < S0 := by rw [hS0]; exact (Array.getElem?_eq_some_iff.1 nh).1
      obtain ⟨y71, hy71⟩ : ∃ y71, y71 = (k : Int) - n := ⟨_, rfl⟩
      have hwk : IntKind.i64.wrap ((k : Int) - n) = y71 := by rw [hy71, IntKind.wrap_i64]; omega
      have HY71 := Lib.hid hy71
      have hq1 := HQ0.out
      clear hdr hnw hmid hy71 hit hi
      go_wp2_with fail
      go_upto_region 17 with fail
      refine wp_region_K (fun w' => w'.cell? ⟨T, 1, none⟩ = some mv ∧ w'.cell? ⟨T, 2, none⟩ = some rv) 20 (by kernel_rfl) ?_
      generalize wr.drew = wd at *
      refine wpK_tk (i := 0) (d := some 62) (v := ?_) rfl rfl (.inl ⟨by rfl, fun w hw => ?_⟩) ⟨t1, t2⟩ ?_
      rotate_left
      ·clear hw; go_simp; with_reducible rfl
      try simp only [Act.put, tA, tB, tC]
      refine wpK_takeP (i := 1) (d := some 63) (v := ?_) rfl (by kernel_rfl) (by kernel_rfl) (by kernel_rfl) (by kernel_rfl) rfl (fun _ _ _ h => h) (.inl ⟨by rfl, fun w hw => ?_⟩) (fun h => ⟨t1, t2⟩) ?_
      rotate_left
      ·clear hw; go_simp; with_reducible rfl
      try simp only [Act.put, tA, tB, tC]
      refine wpK_tk (i := 2) (d := some 64) (v := ?_) rfl rfl (.inl ⟨by rfl, fun w hw => ?_⟩) ⟨t1, t2⟩ ?_
      rotate_left
      ·clear hw; go_simp; with_reducible rfl
      try simp only [Act.put, tA, tB, tC]
      refine wpK_tk (i := 3) (d := some 65) (v := ?_) rfl rfl (.inl ⟨by rfl, fun w hw => ?_⟩) ⟨t1, t2⟩ ?_
      rotate_left
      ·clear hw; go_simp; with_reducible rfl
      try simp only [Act.put, tA, tB, tC]
      refine wpK_tk (i := 4) (d := some 66) (v := ?_) rfl rfl (.inl ⟨by rfl, fun w hw => ?_⟩) ⟨t1, t2⟩ ?_
      rotate_left
      ·clear hw; go_simp; with_reducible rfl
      try simp only [Act.put, tA, tB, tC]
      refine wpK_tk (i := 5) (d := some 67) (v := ?_) rfl rfl (.inl ⟨by rfl, fun w hw => ?_⟩) ⟨t1, t2⟩ ?_
      rotate_left
      ·(obtain ⟨_, _⟩ := hw); go_simp; with_reducible rfl
      try simp only [Act.put, tA, tB, tC]
      refine wpK_tk (i := 6) (d := some 68) (v := ?_) rfl rfl (.inl ⟨by rfl, fun w hw => ?_⟩) ⟨t1, t2⟩ ?_
      rotate_left
      ·clear hw; go_simp; with_reducible rfl
      try simp only [Act.put, tA, tB, tC]
      refine wpK_tk (i := 7) (d := some 69) (v := ?_) rfl rfl (.inl ⟨by rfl, fun w hw => ?_⟩) ⟨t1, t2⟩ ?_
      rotate_left
      ·clear hw; go_simp; with_reducible rfl
      try simp only [Act.put, tA, tB, tC]
      refine wpK_tk (i := 8) (d := some 70) (v := ?_) rfl rfl (.inl ⟨by rfl, fun w hw => ?_⟩) ⟨t1, t2⟩ ?_
      rotate_left
      ·clear hw; go_simp; with_reducible rfl
      try simp only [Act.put, tA, tB, tC]
      refine wpK_takeP (i := 11) (d := some 73) (v := ?_) rfl (by kernel_rfl) (by kernel_rfl) (by kernel_rfl) (by kernel_rfl) rfl (fun _ _ _ h => h) (.inl ⟨by rfl, fun w hw => ?_⟩) (fun h => ⟨t1, t2⟩) ?_
      rotate_left
      ·clear hw; go_simp; with_reducible rfl
      try simp only [Act.put, tA, tB, tC]
      refine wpK_takeP (i := 12) (d := some 74) (v := ?_) rfl (by kernel_rfl) (by kernel_rfl) (by kernel_rfl) (by kernel_rfl) rfl (fun _ _ _ h => h) (.inl ⟨by rfl, fun w hw => ?_⟩) (fun h => ⟨t1, t2⟩) ?_
      rotate_left
      ·clear hw; go_simp; with_reducible rfl
      try simp only [Act.put, tA, tB, tC]
      refine wpK_takeP (i := 13) (d := some 75) (v := ?_) rfl (by kernel_rfl) (by kernel_rfl) (by kernel_rfl) (by kernel_rfl) rfl (fun _ _ _ h => h) (.inl ⟨by rfl, fun w hw => ?_⟩) (fun h => ⟨t1, t2⟩) ?_
      rotate_left
      ·clear hw; go_simp; with_reducible rfl
      try simp only [Act.put, tA, tB, tC]
      refine wpK_tk (i := 14) (d := some 76) (v := ?_) rfl rfl (.inl ⟨by rfl, fun w hw => ?_⟩) ⟨t1, t2⟩ ?_
      rotate_left
      ·(obtain ⟨_, _⟩ := hw); go_simp; with_reducible rfl
      try simp only [Act.put, tA, tB, tC]
      refine wpK_takeP (i := 15) (d := some 77) (v := ?_) rfl (by kernel_rfl) (by kernel_rfl) (by kernel_rfl) (by kernel_rfl) rfl (fun _ _ _ h => h) (.inl ⟨by rfl, fun w hw => ?_⟩) (fun h => ⟨t1, t2⟩) ?_
      rotate_left
      ·clear hw; go_simp; with_reducible rfl
      try simp only [Act.put, tA, tB, tC]
      refine wpK_two (i := 9) (j := 16) (by kernel_rfl) ?_ ?_
      ·refine wpOp_one (i := 9) rfl rfl ?_
       go_simp
       have hBx := alloc_belowL wd (.cells #[.int .i64 y71] 3)
       have t1 := keptBelow hBx t1
       have t2 := keptBelow hBx t2
       have om := owns_below om hBx
       have orr := owns_below orr hBx
       have hrows := fun i hi => (hrows i hi).via hBx
       have hfx := hfx.via hBx
       have hall := hall.via hBx
       have nh := nh.via hBx
       have c1 := keptBelow hBx c1
       have hB := belowVia hBx hB
       have hsx := hBx.size
       have hsy : wd.heap.size < (wd.alloc (.cells #[.int .i64 y71] 3)).heap.size := by have := alloc_sizeL wd (.cells #[.int .i64 y71] 3); omega
       have n71 : (wd.alloc (.cells #[.int .i64 y71] 3)).cell? ⟨wd.heap.size, 0, none⟩ = some (.int .i64 y71) := (cell_of_row _ _ 0 _ _ _ (heap_alloc_new wd (.cells #[.int .i64 y71] 3))).trans rfl
       have hp71b : S0 ≤ wd.heap.size := by omega
       generalize hp71 : wd.heap.size = p71 at *
       generalize wd.alloc (.cells #[.int .i64 y71] 3) = wa at *
       clear hBx
       refine ⟨⟨t1, t2⟩, ?_⟩
       try simp only [Act.put, tA, tB, tC]
       refine wpK_two (i := 10) (j := 16) (by kernel_rfl) ?_ ?_
       ·have hsz72 : S0 ≤ wa.heap.size := by omega
        refine wpOp_append (i := 10) (dt := 72) rfl rfl rfl _ _ _ rfl (T + 1 + 1) 3 j0 (.int .i64 0) 1 8 Tryz.underlying22 HJ0.out HY0.out HY1.out HY2.out rfl (by decide) mv k (intsV ((List.range k).map (startM n))) rfl om ⟨p71, 0, none⟩ 1 1 [.int .i64 y71] rfl rfl (news_of_cell n71) (one_intC _) (by decide) (by unfold maxLen; omega) (by omega) (by omega) ?_
        intro gm cm wb om2 hgr hat72 hlt72
        have t1 := kept_own hgr t1 (fun p e => by have := HOM.out p e; omega)
        have t2 := kept_own hgr t2 (fun p e => by have := HOM.out p e; omega)
        have hrows := fun i hi => kept_num hgr (hrows i hi) (fun p e => HD.out.1 i hi p e)
        have hfx := hfx.grown hgr (fun p e => by have := HOM.out p e; omega) HGT.out
        have hall := kept_num hgr hall (fun p e => by have := HOM.out p e; omega)
        have nh := kept_num hgr nh (fun p e => by have := HOM.out p e; omega)
        have c1 := kept_own hgr c1 (fun p e => by have := HOM.out p e; have := HWT.out; omega)
        have hB := hB.grown hgr hB.size (fun p e => by have := HOM.out p e; have := HWT.out; omega)
        have hsx := hgr.size
        have orr := owns_grown orr hgr (fun g g' e1 e2 => fun e => HD.out.2.2 g' g e2 e1 e.symm)
        generalize hh72 : wa.heap.size = h72 at *
        clear hgr om
        refine ⟨(fun _ => ⟨t1, t2⟩), ?_⟩
        try simp only [Act.put, tA, tB, tC]
        refine wpK_one (i := 16) (by kernel_rfl) rfl rfl ?_
        go_simp
        have hBx := alloc_belowL wb (.cells #[.slice (some ⟨q0 + 1, 0, none⟩) m m] 77)
        have t1 := keptBelow hBx t1
        have t2 := keptBelow hBx t2
        have om2 := owns_below om2 hBx
        have orr := owns_below orr hBx
        have hrows := fun i hi => (hrows i hi).via hBx
        have hfx := hfx.via hBx
        have hall := hall.via hBx
        have nh := nh.via hBx
        have c1 := keptBelow hBx c1
        have hB := belowVia hBx hB
        have hsx := hBx.size
        have hsy : wb.heap.size < (wb.alloc (.cells #[.slice (some ⟨q0 + 1, 0, none⟩) m m] 77)).heap.size := by have := alloc_sizeL wb (.cells #[.slice (some ⟨q0 + 1, 0, none⟩) m m] 77); omega
        have n78 : (wb.alloc (.cells #[.slice (some ⟨q0 + 1, 0, none⟩) m m] 77)).cell? ⟨wb.heap.size, 0, none⟩ = some (.slice (some ⟨q0 + 1, 0, none⟩) m m) := (cell_of_row _ _ 0 _ _ _ (heap_alloc_new wb (.cells #[.slice (some ⟨q0 + 1, 0, none⟩) m m] 77))).trans rfl
        have hp78b : S0 ≤ wb.heap.size := by omega
        generalize hp78 : wb.heap.size = p78 at *
        generalize wb.alloc (.cells #[.slice (some ⟨q0 + 1, 0, none⟩) m m] 77) = wc at *
        clear hBx
        refine ⟨⟨t1, t2⟩, ?_⟩
        try simp only [Act.put, tA, tB, tC]
        have hsz79 : gm < wc.heap.size := by omega
        have hsz79b : S0 ≤ wc.heap.size := by omega
        refine wpK_append (i := 17) (dt := 79) (by kernel_rfl) rfl rfl rfl _ _ _ rfl (T + 1 + 1) 77 l0 (.slice none 0 0) 1 24 Tryz.underlying101 HL0.out HX0.out HX1.out HX2.out rfl (by decide) rv k ((List.range k).map (rowV n rb)) rfl orr ⟨p78, 0, none⟩ 1 1 [.slice (some ⟨q0 + 1, 0, none⟩) m m] rfl rfl (news_of_cell n78) (one_slc _ _ _) (by decide) (by unfold maxLen; omega) (by omega) (by omega) ?_
        intro gr cr we orr2 hgr hat79 hlt79
        have t1 := kept_own hgr t1 (fun p e => by have := HOR.out p e; omega)
        have t2 := kept_own hgr t2 (fun p e => by have := HOR.out p e; omega)
        have hrows := fun i hi => kept_num hgr (hrows i hi) (fun p e => HD.out.2.1 i hi p e)
        have hfx := hfx.grown hgr (fun p e => by have := HOR.out p e; omega) HGT.out
        have hall := kept_num hgr hall (fun p e => by have := HOR.out p e; omega)
        have nh := kept_num hgr nh (fun p e => by have := HOR.out p e; omega)
        have c1 := kept_own hgr c1 (fun p e => by have := HOR.out p e; have := HWT.out; omega)
        have hB := hB.grown hgr hB.size (fun p e => by have := HOR.out p e; have := HWT.out; omega)
        have hsx := hgr.size
        have om2 := owns_grown om2 hgr (fun g g' e1 e2 => by have e1 : some gm = some g := e1; cases e1; have h2 := HOR.out g' e2; rcases hat72 with e3 | e3; exact HD.out.2.2 gm g' e3 e2; omega)
        generalize hh79 : wc.heap.size = h79 at *
        clear hgr orr
        refine ⟨(fun _ => ⟨t1, t2⟩), ?_⟩
        try simp only [Act.put, tA, tB, tC]
        refine wpK_takeP (i := 18) (d := some 80) (v := ?_) rfl (by kernel_rfl) (by kernel_rfl) (by kernel_rfl) (by kernel_rfl) rfl (fun _ _ _ h => h) (.inl ⟨by rfl, fun w hw => ?_⟩) (fun h => ⟨t1, t2⟩) ?_
        rotate_left
        ·clear hw; go_simp; with_reducible rfl
        try simp only [Act.put, tA, tB, tC]
        refine wpK_tk (i := 19) (d := some 81) (v := ?_) rfl rfl (.inl ⟨by rfl, fun w hw => ?_⟩) ⟨t1, t2⟩ ?_
        rotate_left
        ·clear hw; go_simp; with_reducible rfl
        try simp only [Act.put, tA, tB, tC]
        refine wpK_set (i := 20) (by kernel_rfl) rfl rfl rfl _ _ _ rfl T 1 (.slice (some ⟨gm, 0, none⟩) (k + 1) cm) rfl rfl rfl (by rw [t1]; rfl) (hfx.fz 1) (by kernel_rfl) rfl ?_
        refine ⟨(fun h => absurd h (by intro h; have h : true = false := h; cases h)), ?_⟩
        try simp only [Act.put, tA, tB, tC]
        refine wpK_takeP (i := 21) (d := some 82) (v := ?_) rfl (by kernel_rfl) (by kernel_rfl) (by kernel_rfl) (by kernel_rfl) rfl (fun _ _ _ h => h) (.inl ⟨by rfl, fun w hw => ?_⟩) (fun h => absurd h (by intro h; have h : true = false := h; cases h)) ?_
        rotate_left
        ·clear hw; go_simp; with_reducible rfl
        try simp only [Act.put, tA, tB, tC]
        refine wpK_takeP (i := 22) (d := some 83) (v := ?_) rfl (by kernel_rfl) (by kernel_rfl) (by kernel_rfl) (by kernel_rfl) rfl (fun _ _ _ h => h) (.inl ⟨by rfl, fun w hw => ?_⟩) (fun h => absurd h (by intro h; have h : true = false := h; cases h)) ?_
        rotate_left
        ·clear hw; go_simp; with_reducible rfl
        try simp only [Act.put, tA, tB, tC]
        have t2x : (we.setCell ⟨T, 1, none⟩ (.slice (some ⟨gm, 0, none⟩) (k + 1) cm)).cell? ⟨T, 2, none⟩ = some rv := (World.cell?_setCell_other _ _ _ _ (by intro e; have := congrArg Addr.off e; dsimp only at this; omega)).trans t2
        refine wpK_store1 (i := 23) (by kernel_rfl) rfl rfl rfl (by kernel_rfl) (by kernel_rfl) _ _ _ rfl T 2 (.slice (some ⟨gr, 0, none⟩) (k + 1) cr) rfl rfl rfl (by rw [t2x]; rfl) (by rw [World.frozen?_setCell]; exact hfx.fz 2) (by kernel_rfl) rfl ?_
        have hdist := new_dist (gm := gm) (gr := gr) HD.out HOM.out HOR.out HRB.out hat72 hat79 (by omega) (by omega) (by omega) (by omega) (by omega)
        have HNEW := Lib.hid (new_next (w := we) (gm := gm) (gr := gr) (mv' := .slice (some ⟨gm, 0, none⟩) (k + 1) cm) (rv' := .slice (some ⟨gr, 0, none⟩) (k + 1) cr) t1 t2 (by rw [HY71.out] at om2; exact om2) (by rw [HM'.out] at orr2; exact orr2) hrows HRB.out nh (by omega) (by omega) HINJ.out rfl rfl hdist (by have := own_lt om2 gm rfl; omega) (by have := own_lt orr2 gr rfl; omega))
        have HFXN := Lib.hid ((hfx.set (v := .slice (some ⟨gm, 0, none⟩) (k + 1) cm) (.inl rfl) HGT.out).set (v := .slice (some ⟨gr, 0, none⟩) (k + 1) cr) (.inr rfl) HGT.out)
        have HALLN : Hid (NumB (T + 1) (rowL (allTo n (sysB s) (k + 1))) ((we.setCell ⟨T, 1, none⟩ (.slice (some ⟨gm, 0, none⟩) (k + 1) cm)).setCell ⟨T, 2, none⟩ (.slice (some ⟨gr, 0, none⟩) (k + 1) cr))) := Lib.hid ((hall.other (by omega)).other (by omega))
        have HC1N := Lib.hid ((World.cell?_setCell_other (we.setCell ⟨T, 1, none⟩ (.slice (some ⟨gm, 0, none⟩) (k + 1) cm)) ⟨T, 2, none⟩ ⟨W.heap.size, 1, none⟩ (.slice (some ⟨gr, 0, none⟩) (k + 1) cr) (by intro e; have := congrArg Addr.block e; dsimp only at this; have := HWT.out; omega)).trans ((World.cell?_setCell_other we ⟨T, 1, none⟩ ⟨W.heap.size, 1, none⟩ (.slice (some ⟨gm, 0, none⟩) (k + 1) cm) (by intro e; have := congrArg Addr.block e; dsimp only at this; have := HWT.out; omega)).trans c1))
        have HBN := Lib.hid ((hB.setCell (p := ⟨T, 1, none⟩) (Nat.le_of_lt HWT.out) (.slice (some ⟨gm, 0, none⟩) (k + 1) cm)).setCell (p := ⟨T, 2, none⟩) (Nat.le_of_lt HWT.out) (.slice (some ⟨gr, 0, none⟩) (k + 1) cr))
        generalize (we.setCell ⟨T, 1, none⟩ (.slice (some ⟨gm, 0, none⟩) (k + 1) cm)).setCell ⟨T, 2, none⟩ (.slice (some ⟨gr, 0, none⟩) (k + 1) cr) = wz at *
        clear t1 t2 t2x hfx hall nh c1 hB hrows om2 orr2 hdist n78
        go_wp2_with fail
        go_roundw
        case rel => exact ⟨k + 1, by omega, by go_num, ⟨_, _, _, HNEW.out⟩, HFXN.out, HALLN.out, HC1N.out, HBN.out⟩
        case measure => simp [intOf]; omega
       ·refine wpOp_one (i := 16) rfl rfl ?_
        go_simp
        have hBx := alloc_belowL wa (.cells #[.slice (some ⟨q0 + 1, 0, none⟩) m m] 77)
        have t1 := keptBelow hBx t1
        have t2 := keptBelow hBx t2
        have om := owns_below om hBx
        have orr := owns_below orr hBx
        have hrows := fun i hi => (hrows i hi).via hBx
        have hfx := hfx.via hBx
        have hall := hall.via hBx
        have nh := nh.via hBx
        have c1 := keptBelow hBx c1
        have hB := belowVia hBx hB
        have hsx := hBx.size
        have hsy : wa.heap.size < (wa.alloc (.cells #[.slice (some ⟨q0 + 1, 0, none⟩) m m] 77)).heap.size := by have := alloc_sizeL wa (.cells #[.slice (some ⟨q0 + 1, 0, none⟩) m m] 77); omega
        have n78 : (wa.alloc (.cells #[.slice (some ⟨q0 + 1, 0, none⟩) m m] 77)).cell? ⟨wa.heap.size, 0, none⟩ = some (.slice (some ⟨q0 + 1, 0, none⟩) m m) := (cell_of_row _ _ 0 _ _ _ (heap_alloc_new wa (.cells #[.slice (some ⟨q0 + 1, 0, none⟩) m m] 77))).trans rfl
        have n71 := keptBelow hBx n71
        have hp78b : S0 ≤ wa.heap.size := by omega
        generalize hp78 : wa.heap.size = p78 at *
        generalize wa.alloc (.cells #[.slice (some ⟨q0 + 1, 0, none⟩) m m] 77) = wb at *
        clear hBx
        refine ⟨⟨t1, t2⟩, ?_⟩
        try simp only [Act.put, tA, tB, tC]
        have hsz72 : S0 ≤ wb.heap.size := by omega
        refine wpK_append (i := 10) (dt := 72) (by kernel_rfl) rfl rfl rfl _ _ _ rfl (T + 1 + 1) 3 j0 (.int .i64 0) 1 8 Tryz.underlying22 HJ0.out HY0.out HY1.out HY2.out rfl (by decide) mv k (intsV ((List.range k).map (startM n))) rfl om ⟨p71, 0, none⟩ 1 1 [.int .i64 y71] rfl rfl (news_of_cell n71) (one_intC _) (by decide) (by unfold maxLen; omega) (by omega) (by omega) ?_
        intro gm cm wc om2 hgr hat72 hlt72
        have t1 := kept_own hgr t1 (fun p e => by have := HOM.out p e; omega)
        have t2 := kept_own hgr t2 (fun p e => by have := HOM.out p e; omega)
        have hrows := fun i hi => kept_num hgr (hrows i hi) (fun p e => HD.out.1 i hi p e)
        have hfx := hfx.grown hgr (fun p e => by have := HOM.out p e; omega) HGT.out
        have hall := kept_num hgr hall (fun p e => by have := HOM.out p e; omega)
        have nh := kept_num hgr nh (fun p e => by have := HOM.out p e; omega)
        have c1 := kept_own hgr c1 (fun p e => by have := HOM.out p e; have := HWT.out; omega)
        have hB := hB.grown hgr hB.size (fun p e => by have := HOM.out p e; have := HWT.out; omega)
        have hsx := hgr.size
        have orr := owns_grown orr hgr (fun g g' e1 e2 => fun e => HD.out.2.2 g' g e2 e1 e.symm)
        have n78 := kept_own hgr n78 (fun p e => by have := HOM.out p e; omega)
        generalize hh72 : wb.heap.size = h72 at *
        clear hgr om
        refine ⟨(fun _ => ⟨t1, t2⟩), ?_⟩
        try simp only [Act.put, tA, tB, tC]
        have hsz79 : gm < wc.heap.size := by omega
        have hsz79b : S0 ≤ wc.heap.size := by omega
        refine wpK_append (i := 17) (dt := 79) (by kernel_rfl) rfl rfl rfl _ _ _ rfl (T + 1 + 1) 77 l0 (.slice none 0 0) 1 24 Tryz.underlying101 HL0.out HX0.out HX1.out HX2.out rfl (by decide) rv k ((List.range k).map (rowV n rb)) rfl orr ⟨p78, 0, none⟩ 1 1 [.slice (some ⟨q0 + 1, 0, none⟩) m m] rfl rfl (news_of_cell n78) (one_slc _ _ _) (by decide) (by unfold maxLen; omega) (by omega) (by omega) ?_
        intro gr cr we orr2 hgr hat79 hlt79
        have t1 := kept_own hgr t1 (fun p e => by have := HOR.out p e; omega)
        have t2 := kept_own hgr t2 (fun p e => by have := HOR.out p e; omega)
        have hrows := fun i hi => kept_num hgr (hrows i hi) (fun p e => HD.out.2.1 i hi p e)
        have hfx := hfx.grown hgr (fun p e => by have := HOR.out p e; omega) HGT.out
        have hall := kept_num hgr hall (fun p e => by have := HOR.out p e; omega)
        have nh := kept_num hgr nh (fun p e => by have := HOR.out p e; omega)
        have c1 := kept_own hgr c1 (fun p e => by have := HOR.out p e; have := HWT.out; omega)
        have hB := hB.grown hgr hB.size (fun p e => by have := HOR.out p e; have := HWT.out; omega)
        have hsx := hgr.size
        have om2 := owns_grown om2 hgr (fun g g' e1 e2 => by have e1 : some gm = some g := e1; cases e1; have h2 := HOR.out g' e2; rcases hat72 with e3 | e3; exact HD.out.2.2 gm g' e3 e2; omega)
        generalize hh79 : wc.heap.size = h79 at *
        clear hgr orr
        refine ⟨(fun _ => ⟨t1, t2⟩), ?_⟩
        try simp only [Act.put, tA, tB, tC]
        refine wpK_takeP (i := 18) (d := some 80) (v := ?_) rfl (by kernel_rfl) (by kernel_rfl) (by kernel_rfl) (by kernel_rfl) rfl (fun _ _ _ h => h) (.inl ⟨by rfl, fun w hw => ?_⟩) (fun h => ⟨t1, t2⟩) ?_
        rotate_left
        ·clear hw; go_simp; with_reducible rfl
        try simp only [Act.put, tA, tB, tC]
        refine wpK_tk (i := 19) (d := some 81) (v := ?_) rfl rfl (.inl ⟨by rfl, fun w hw => ?_⟩) ⟨t1, t2⟩ ?_
        rotate_left
        ·clear hw; go_simp; with_reducible rfl
        try simp only [Act.put, tA, tB, tC]
        refine wpK_set (i := 20) (by kernel_rfl) rfl rfl rfl _ _ _ rfl T 1 (.slice (some ⟨gm, 0, none⟩) (k + 1) cm) rfl rfl rfl (by rw [t1]; rfl) (hfx.fz 1) (by kernel_rfl) rfl ?_
        refine ⟨(fun h => absurd h (by intro h; have h : true = false := h; cases h)), ?_⟩
        try simp only [Act.put, tA, tB, tC]
        refine wpK_takeP (i := 21) (d := some 82) (v := ?_) rfl (by kernel_rfl) (by kernel_rfl) (by kernel_rfl) (by kernel_rfl) rfl (fun _ _ _ h => h) (.inl ⟨by rfl, fun w hw => ?_⟩) (fun h => absurd h (by intro h; have h : true = false := h; cases h)) ?_
        rotate_left
        ·clear hw; go_simp; with_reducible rfl
        try simp only [Act.put, tA, tB, tC]
        refine wpK_takeP (i := 22) (d := some 83) (v := ?_) rfl (by kernel_rfl) (by kernel_rfl) (by kernel_rfl) (by kernel_rfl) rfl (fun _ _ _ h => h) (.inl ⟨by rfl, fun w hw => ?_⟩) (fun h => absurd h (by intro h; have h : true = false := h; cases h)) ?_
        rotate_left
        ·clear hw; go_simp; with_reducible rfl
        try simp only [Act.put, tA, tB, tC]
        have t2x : (we.setCell ⟨T, 1, none⟩ (.slice (some ⟨gm, 0, none⟩) (k + 1) cm)).cell? ⟨T, 2, none⟩ = some rv := (World.cell?_setCell_other _ _ _ _ (by intro e; have := congrArg Addr.off e; dsimp only at this; omega)).trans t2
        refine wpK_store1 (i := 23) (by kernel_rfl) rfl rfl rfl (by kernel_rfl) (by kernel_rfl) _ _ _ rfl T 2 (.slice (some ⟨gr, 0, none⟩) (k + 1) cr) rfl rfl rfl (by rw [t2x]; rfl) (by rw [World.frozen?_setCell]; exact hfx.fz 2) (by kernel_rfl) rfl ?_
        have hdist := new_dist (gm := gm) (gr := gr) HD.out HOM.out HOR.out HRB.out hat72 hat79 (by omega) (by omega) (by omega) (by omega) (by omega)
        have HNEW := Lib.hid (new_next (w := we) (gm := gm) (gr := gr) (mv' := .slice (some ⟨gm, 0, none⟩) (k + 1) cm) (rv' := .slice (some ⟨gr, 0, none⟩) (k + 1) cr) t1 t2 (by rw [HY71.out] at om2; exact om2) (by rw [HM'.out] at orr2; exact orr2) hrows HRB.out nh (by omega) (by omega) HINJ.out rfl rfl hdist (by have := own_lt om2 gm rfl; omega) (by have := own_lt orr2 gr rfl; omega))
        have HFXN := Lib.hid ((hfx.set (v := .slice (some ⟨gm, 0, none⟩) (k + 1) cm) (.inl rfl) HGT.out).set (v := .slice (some ⟨gr, 0, none⟩) (k + 1) cr) (.inr rfl) HGT.out)
        have HALLN : Hid (NumB (T + 1) (rowL (allTo n (sysB s) (k + 1))) ((we.setCell ⟨T, 1, none⟩ (.slice (some ⟨gm, 0, none⟩) (k + 1) cm)).setCell ⟨T, 2, none⟩ (.slice (some ⟨gr, 0, none⟩) (k + 1) cr))) := Lib.hid ((hall.other (by omega)).other (by omega))
        have HC1N := Lib.hid ((World.cell?_setCell_other (we.setCell ⟨T, 1, none⟩ (.slice (some ⟨gm, 0, none⟩) (k + 1) cm)) ⟨T, 2, none⟩ ⟨W.heap.size, 1, none⟩ (.slice (some ⟨gr, 0, none⟩) (k + 1) cr) (by intro e; have := congrArg Addr.block e; dsimp only at this; have := HWT.out; omega)).trans ((World.cell?_setCell_other we ⟨T, 1, none⟩ ⟨W.heap.size, 1, none⟩ (.slice (some ⟨gm, 0, none⟩) (k + 1) cm) (by intro e; have := congrArg Addr.block e; dsimp only at this; have := HWT.out; omega)).trans c1))
        have HBN := Lib.hid ((hB.setCell (p := ⟨T, 1, none⟩) (Nat.le_of_lt HWT.out) (.slice (some ⟨gm, 0, none⟩) (k + 1) cm)).setCell (p := ⟨T, 2, none⟩) (Nat.le_of_lt HWT.out) (.slice (some ⟨gr, 0, none⟩) (k + 1) cr))
        generalize (we.setCell ⟨T, 1, none⟩ (.slice (some ⟨gm, 0, none⟩) (k + 1) cm)).setCell ⟨T, 2, none⟩ (.slice (some ⟨gr, 0, none⟩) (k + 1) cr) = wz at *
        clear t1 t2 t2x hfx hall nh c1 hB hrows om2 orr2 hdist n78
        go_wp2_with fail
        go_roundw
        case rel => exact ⟨k + 1, by omega, by go_num, ⟨_, _, _, HNEW.out⟩, HFXN.out, HALLN.out, HC1N.out, HBN.out⟩
        case measure => simp [intOf]; omega
      ·refine wpOp_one (i := 16) rfl rfl ?_
       go_simp
       have hBx := alloc_belowL wd (.cells #[.slice (some ⟨q0 + 1, 0, none⟩) m m] 77)
       have t1 := keptBelow hBx t1
       have t2 := keptBelow hBx t2
       have om := owns_below om hBx
       have orr := owns_below orr hBx
       have hrows := fun i hi => (hrows i hi).via hBx
       have hfx := hfx.via hBx
       have hall := hall.via hBx
       have nh := nh.via hBx
       have c1 := keptBelow hBx c1
       have hB := belowVia hBx hB
       have hsx := hBx.size
       have hsy : wd.heap.size < (wd.alloc (.cells #[.slice (some ⟨q0 + 1, 0, none⟩) m m] 77)).heap.size := by have := alloc_sizeL wd (.cells #[.slice (some ⟨q0 + 1, 0, none⟩) m m] 77); omega
       have n78 : (wd.alloc (.cells #[.slice (some ⟨q0 + 1, 0, none⟩) m m] 77)).cell? ⟨wd.heap.size, 0, none⟩ = some (.slice (some ⟨q0 + 1, 0, none⟩) m m) := (cell_of_row _ _ 0 _ _ _ (heap_alloc_new wd (.cells #[.slice (some ⟨q0 + 1, 0, none⟩) m m] 77))).trans rfl
       have hp78b : S0 ≤ wd.heap.size := by omega
       generalize hp78 : wd.heap.size = p78 at *
       generalize wd.alloc (.cells #[.slice (some ⟨q0 + 1, 0, none⟩) m m] 77) = wa at *
       clear hBx
       refine ⟨⟨t1, t2⟩, ?_⟩
       try simp only [Act.put, tA, tB, tC]
       refine wpK_one (i := 9) (by kernel_rfl) rfl rfl ?_
       go_simp
       have hBx := alloc_belowL wa (.cells #[.int .i64 y71] 3)
       have t1 := keptBelow hBx t1
       have t2 := keptBelow hBx t2
       have om := owns_below om hBx
       have orr := owns_below orr hBx
       have hrows := fun i hi => (hrows i hi).via hBx
       have hfx := hfx.via hBx
       have hall := hall.via hBx
       have nh := nh.via hBx
       have c1 := keptBelow hBx c1
       have hB := belowVia hBx hB
       have hsx := hBx.size
       have hsy : wa.heap.size < (wa.alloc (.cells #[.int .i64 y71] 3)).heap.size := by have := alloc_sizeL wa (.cells #[.int .i64 y71] 3); omega
       have n71 : (wa.alloc (.cells #[.int .i64 y71] 3)).cell? ⟨wa.heap.size, 0, none⟩ = some (.int .i64 y71) := (cell_of_row _ _ 0 _ _ _ (heap_alloc_new wa (.cells #[.int .i64 y71] 3))).trans rfl
       have n78 := keptBelow hBx n78
       have hp71b : S0 ≤ wa.heap.size := by omega
       generalize hp71 : wa.heap.size = p71 at *
       generalize wa.alloc (.cells #[.int .i64 y71] 3) = wb at *
       clear hBx
       refine ⟨⟨t1, t2⟩, ?_⟩
       try simp only [Act.put, tA, tB, tC]
       have hsz72 : S0 ≤ wb.heap.size := by omega
       refine wpK_append (i := 10) (dt := 72) (by kernel_rfl) rfl rfl rfl _ _ _ rfl (T + 1 + 1) 3 j0 (.int .i64 0) 1 8 Tryz.underlying22 HJ0.out HY0.out HY1.out HY2.out rfl (by decide) mv k (intsV ((List.range k).map (startM n))) rfl om ⟨p71, 0, none⟩ 1 1 [.int .i64 y71] rfl rfl (news_of_cell n71) (one_intC _) (by decide) (by unfold maxLen; omega) (by omega) (by omega) ?_
       intro gm cm wc om2 hgr hat72 hlt72
       have t1 := kept_own hgr t1 (fun p e => by have := HOM.out p e; omega)
       have t2 := kept_own hgr t2 (fun p e => by have := HOM.out p e; omega)
       have hrows := fun i hi => kept_num hgr (hrows i hi) (fun p e => HD.out.1 i hi p e)
       have hfx := hfx.grown hgr (fun p e => by have := HOM.out p e; omega) HGT.out
       have hall := kept_num hgr hall (fun p e => by have := HOM.out p e; omega)
       have nh := kept_num hgr nh (fun p e => by have := HOM.out p e; omega)
       have c1 := kept_own hgr c1 (fun p e => by have := HOM.out p e; have := HWT.out; omega)
       have hB := hB.grown hgr hB.size (fun p e => by have := HOM.out p e; have := HWT.out; omega)
       have hsx := hgr.size
       have orr := owns_grown orr hgr (fun g g' e1 e2 => fun e => HD.out.2.2 g' g e2 e1 e.symm)
       have n78 := kept_own hgr n78 (fun p e => by have := HOM.out p e; omega)
       generalize hh72 : wb.heap.size = h72 at *
       clear hgr om
       refine ⟨(fun _ => ⟨t1, t2⟩), ?_⟩
       try simp only [Act.put, tA, tB, tC]
       have hsz79 : gm < wc.heap.size := by omega
       have hsz79b : S0 ≤ wc.heap.size := by omega
       refine wpK_append (i := 17) (dt := 79) (by kernel_rfl) rfl rfl rfl _ _ _ rfl (T + 1 + 1) 77 l0 (.slice none 0 0) 1 24 Tryz.underlying101 HL0.out HX0.out HX1.out HX2.out rfl (by decide) rv k ((List.range k).map (rowV n rb)) rfl orr ⟨p78, 0, none⟩ 1 1 [.slice (some ⟨q0 + 1, 0, none⟩) m m] rfl rfl (news_of_cell n78) (one_slc _ _ _) (by decide) (by unfold maxLen; omega) (by omega) (by omega) ?_
       intro gr cr we orr2 hgr hat79 hlt79
       have t1 := kept_own hgr t1 (fun p e => by have := HOR.out p e; omega)
       have t2 := kept_own hgr t2 (fun p e => by have := HOR.out p e; omega)
       have hrows := fun i hi => kept_num hgr (hrows i hi) (fun p e => HD.out.2.1 i hi p e)
       have hfx := hfx.grown hgr (fun p e => by have := HOR.out p e; omega) HGT.out
       have hall := kept_num hgr hall (fun p e => by have := HOR.out p e; omega)
       have nh := kept_num hgr nh (fun p e => by have := HOR.out p e; omega)
       have c1 := kept_own hgr c1 (fun p e => by have := HOR.out p e; have := HWT.out; omega)
       have hB := hB.grown hgr hB.size (fun p e => by have := HOR.out p e; have := HWT.out; omega)
       have hsx := hgr.size
       have om2 := owns_grown om2 hgr (fun g g' e1 e2 => by have e1 : some gm = some g := e1; cases e1; have h2 := HOR.out g' e2; rcases hat72 with e3 | e3; exact HD.out.2.2 gm g' e3 e2; omega)
       generalize hh79 : wc.heap.size = h79 at *
       clear hgr orr
       refine ⟨(fun _ => ⟨t1, t2⟩), ?_⟩
       try simp only [Act.put, tA, tB, tC]
       refine wpK_takeP (i := 18) (d := some 80) (v := ?_) rfl (by kernel_rfl) (by kernel_rfl) (by kernel_rfl) (by kernel_rfl) rfl (fun _ _ _ h => h) (.inl ⟨by rfl, fun w hw => ?_⟩) (fun h => ⟨t1, t2⟩) ?_
       rotate_left
       ·clear hw; go_simp; with_reducible rfl
       try simp only [Act.put, tA, tB, tC]
       refine wpK_tk (i := 19) (d := some 81) (v := ?_) rfl rfl (.inl ⟨by rfl, fun w hw => ?_⟩) ⟨t1, t2⟩ ?_
       rotate_left
       ·clear hw; go_simp; with_reducible rfl
       try simp only [Act.put, tA, tB, tC]
       refine wpK_set (i := 20) (by kernel_rfl) rfl rfl rfl _ _ _ rfl T 1 (.slice (some ⟨gm, 0, none⟩) (k + 1) cm) rfl rfl rfl (by rw [t1]; rfl) (hfx.fz 1) (by kernel_rfl) rfl ?_
       refine ⟨(fun h => absurd h (by intro h; have h : true = false := h; cases h)), ?_⟩
       try simp only [Act.put, tA, tB, tC]
       refine wpK_takeP (i := 21) (d := some 82) (v := ?_) rfl (by kernel_rfl) (by kernel_rfl) (by kernel_rfl) (by kernel_rfl) rfl (fun _ _ _ h => h) (.inl ⟨by rfl, fun w hw => ?_⟩) (fun h => absurd h (by intro h; have h : true = false := h; cases h)) ?_
       rotate_left
       ·clear hw; go_simp; with_reducible rfl
       try simp only [Act.put, tA, tB, tC]
       refine wpK_takeP (i := 22) (d := some 83) (v := ?_) rfl (by kernel_rfl) (by kernel_rfl) (by kernel_rfl) (by kernel_rfl) rfl (fun _ _ _ h => h) (.inl ⟨by rfl, fun w hw => ?_⟩) (fun h => absurd h (by intro h; have h : true = false := h; cases h)) ?_
       rotate_left
       ·clear hw; go_simp; with_reducible rfl
       try simp only [Act.put, tA, tB, tC]
       have t2x : (we.setCell ⟨T, 1, none⟩ (.slice (some ⟨gm, 0, none⟩) (k + 1) cm)).cell? ⟨T, 2, none⟩ = some rv := (World.cell?_setCell_other _ _ _ _ (by intro e; have := congrArg Addr.off e; dsimp only at this; omega)).trans t2
       refine wpK_store1 (i := 23) (by kernel_rfl) rfl rfl rfl (by kernel_rfl) (by kernel_rfl) _ _ _ rfl T 2 (.slice (some ⟨gr, 0, none⟩) (k + 1) cr) rfl rfl rfl (by rw [t2x]; rfl) (by rw [World.frozen?_setCell]; exact hfx.fz 2) (by kernel_rfl) rfl ?_
       have hdist := new_dist (gm := gm) (gr := gr) HD.out HOM.out HOR.out HRB.out hat72 hat79 (by omega) (by omega) (by omega) (by omega) (by omega)
       have HNEW := Lib.hid (new_next (w := we) (gm := gm) (gr := gr) (mv' := .slice (some ⟨gm, 0, none⟩) (k + 1) cm) (rv' := .slice (some ⟨gr, 0, none⟩) (k + 1) cr) t1 t2 (by rw [HY71.out] at om2; exact om2) (by rw [HM'.out] at orr2; exact orr2) hrows HRB.out nh (by omega) (by omega) HINJ.out rfl rfl hdist (by have := own_lt om2 gm rfl; omega) (by have := own_lt orr2 gr rfl; omega))
       have HFXN := Lib.hid ((hfx.set (v := .slice (some ⟨gm, 0, none⟩) (k + 1) cm) (.inl rfl) HGT.out).set (v := .slice (some ⟨gr, 0, none⟩) (k + 1) cr) (.inr rfl) HGT.out)
       have HALLN : Hid (NumB (T + 1) (rowL (allTo n (sysB s) (k + 1))) ((we.setCell ⟨T, 1, none⟩ (.slice (some ⟨gm, 0, none⟩) (k + 1) cm)).setCell ⟨T, 2, none⟩ (.slice (some ⟨gr, 0, none⟩) (k + 1) cr))) := Lib.hid ((hall.other (by omega)).other (by omega))
       have HC1N := Lib.hid ((World.cell?_setCell_other (we.setCell ⟨T, 1, none⟩ (.slice (some ⟨gm, 0, none⟩) (k + 1) cm)) ⟨T, 2, none⟩ ⟨W.heap.size, 1, none⟩ (.slice (some ⟨gr, 0, none⟩) (k + 1) cr) (by intro e; have := congrArg Addr.block e; dsimp only at this; have := HWT.out; omega)).trans ((World.cell?_setCell_other we ⟨T, 1, none⟩ ⟨W.heap.size, 1, none⟩ (.slice (some ⟨gm, 0, none⟩) (k + 1) cm) (by intro e; have := congrArg Addr.block e; dsimp only at this; have := HWT.out; omega)).trans c1))
       have HBN := Lib.hid ((hB.setCell (p := ⟨T, 1, none⟩) (Nat.le_of_lt HWT.out) (.slice (some ⟨gm, 0, none⟩) (k + 1) cm)).setCell (p := ⟨T, 2, none⟩) (Nat.le_of_lt HWT.out) (.slice (some ⟨gr, 0, none⟩) (k + 1) cr))
       generalize (we.setCell ⟨T, 1, none⟩ (.slice (some ⟨gm, 0, none⟩) (k + 1) cm)).setCell ⟨T, 2, none⟩ (.slice (some ⟨gr, 0, none⟩) (k + 1) cr) = wz at *
       clear t1 t2 t2x hfx hall nh c1 hB hrows om2 orr2 hdist n78
       go_wp2_with fail
       go_roundw
       case rel => exact ⟨k + 1, by omega, by go_num, ⟨_, _, _, HNEW.out⟩, HFXN.out, HALLN.out, HC1N.out, HBN.out⟩
       case measure => simp [intOf]; omega
  ·obtain rfl : n = k := by omega
   have t2 := HNW.out.c2
   have hba := alloc_belowL wr (.cells #[.slice (some ⟨T + 1, 0, none⟩) m m] 77)
   have n78 : (wr.alloc (.cells #[.slice (some ⟨T + 1, 0, none⟩) m m] 77)).cell? ⟨wr.heap.size, 0, none⟩ = some (.slice (some ⟨T + 1, 0, none⟩) m m) := (cell_of_row _ _ 0 _ _ _ (heap_alloc_new wr (.cells #[.slice (some ⟨T + 1, 0, none⟩) m m] 77))).trans rfl
   have HN78 := Lib.hid (news_of_cell n78)
   have HORR := Lib.hid (owns_below HNW.out.orr hba)
   have HNWa := Lib.hid (HNW.out.via hba)
   have HFXa := Lib.hid (HFX.out.via hba)
   have HALLa := Lib.hid (HALL.out.via hba)
   have HBa := Lib.hid (belowVia hba hB)
   have HBSZ : Hid (T + 1 + 1 ≤ (wr.alloc (.cells #[.slice (some ⟨T + 1, 0, none⟩) m m] 77)).heap.size) := Lib.hid (by have h1 := (Array.getElem?_eq_some_iff.1 HALL.out).1; have h2 := hba.size; omega)
   have HOR : Hid (∀ p, rv.ownBlock = some p → T + 1 < p ∧ p < wr.heap.size) := Lib.hid (fun p e => own_lt HNW.out.orr p e)
   have HOM : Hid (∀ p, mv.ownBlock = some p → T + 1 < p ∧ p < wr.heap.size) := Lib.hid (fun p e => own_lt HNW.out.om p e)
   have HRB : Hid (∀ i, i < n → rb i < wr.heap.size) := Lib.hid (fun i hi => (Array.getElem?_eq_some_iff.1 (HNW.out.rows i hi).1).1)
   have HSA := Lib.hid (alloc_sizeL wr (.cells #[.slice (some ⟨T + 1, 0, none⟩) m m] 77))
   clear hba n78 hB c1 HB HALL HFX HNW hlt hk
   go_wp2_with (at_builtin; go_must (refine wpList_append_lies _ rfl _ _ 101 rfl (T + 1 + 1) 77 l0 (.slice none 0 0) 1 24 Tryz.underlying101 HL0.out HX0.out HX1.out HX2.out rfl (by decide) rv n ((List.range n).map (rowV n rb)) (by rfl) HORR.out ⟨wr.heap.size, 0, none⟩ 1 1 [.slice (some ⟨T + 1, 0, none⟩) m m] (by rfl) rfl HN78.out (one_slc _ _ _) (by decide) (by unfold maxLen; omega) (by omega) HBSZ.out _ rfl ?_); intro gr cr w9 orr2 hgr hat hlt9; have t2 := kept_own hgr HNWa.out.c2 (fun p e => by have := HOR.out p e; omega); have t1 := kept_own hgr HNWa.out.c1 (fun p e => by have := HOR.out p e; omega); have hfx := HFXa.out.grown hgr (fun p e => by have := HOR.out p e; omega) hgcT; have f2 := hfx.fz 2; have ORR2 := Lib.hid orr2; have HGR := Lib.hid hgr; have HAT := Lib.hid hat; have T1 := Lib.hid t1; have T2 := Lib.hid t2; have HFX9 := Lib.hid hfx; clear orr2 hgr hat t1 hfx hlt9)
   go_ret
   have hgr := HGR.out
   rw [HSA.out] at HAT
   have hgrne : ∀ i, i < n → rb i ≠ gr := fun i hi => by
    rcases HAT.out with e | e
    ·exact HNWa.out.dr i hi gr e
    ·have := HRB.out i hi; omega
   have hgT : T + 1 < gr := by have := (own_cap ORR2.out).2.2; omega
   have hcell : ∀ p i v, p ≠ T ∨ i ≠ 2 → w9.cell? ⟨p, i, none⟩ = some v → (w9.setCell ⟨T, 2, none⟩ (.slice (some ⟨gr, 0, none⟩) (n + 1) cr)).cell? ⟨p, i, none⟩ = some v := fun p i v hne h =>
    (World.cell?_setCell_other _ _ _ _ (by intro e; have e1 := congrArg Addr.block e; have e2 := congrArg Addr.off e; dsimp only at e1 e2; omega)).trans h
   have hom2 := own_set (owns_grown HNWa.out.om hgr (fun g g' e1 e2 => HNWa.out.dd g g' e1 e2)) (p := T) (i := 2) (u := .slice (some ⟨gr, 0, none⟩) (n + 1) cr) (fun p e => by have := HOM.out p e; omega)
   have horr2 := own_set ORR2.out (p := T) (i := 2) (u := .slice (some ⟨gr, 0, none⟩) (n + 1) cr) (fun p e => by have e : some gr = some p := e; cases e; omega)
   rw [HM'.out] at horr2
   obtain ⟨am, cm, htab⟩ := new_tab (B := W.heap.size) (w := w9.setCell ⟨T, 2, none⟩ (.slice (some ⟨gr, 0, none⟩) (n + 1) cr)) (b := sysB s) (HFX9.out.set (.inr rfl) hgcT) (hcell _ _ _ (.inr (by decide)) T1.out) (World.cell?_setCell_same' _ _ _ (by rw [T2.out]; rfl)) hom2 horr2
    (fun i hi => ⟨(kept_num hgr (HNWa.out.rows i hi).1 (fun p e => HNWa.out.dr i hi p e)).other (by have := (HNWa.out.rows i hi).2; omega), (HNWa.out.rows i hi).2⟩) ((kept_num hgr HALLa.out (fun p e => by have := HOR.out p e; omega)).other (by omega)) HNWa.out.inj HNWa.out.dm hgrne
    (fun g e => by rcases HAT.out with e2 | e2; exact HNWa.out.dd g gr e e2; have := HOM.out g e; omega) (Nat.le_of_lt HWT.out) hgcT
   refine ⟨⟨_, rfl, htab⟩, ?_⟩
   exact (HBa.out.grown hgr HBa.out.size (fun p e => by have := HOR.out p e; have := HWT.out; omega)).setCell (p := ⟨T, 2, none⟩) (Nat.le_of_lt HWT.out) _
end Go.Proofs.YtofmjkgaaphnkaaGreatDoor
/- RatStr: Integer's functions, whatever the two texts. -/
namespace Go.Proofs.YtofmjkgaaphnkaaGreatDoor
open Go.RowKit Putlog

def Sized (x : ByteArray) : Prop := (x.size : Int) ≤ 9223372036854775807
theorem sized_int {z : Int} (h : z.natAbs < 10000 ^ 250) : Sized (intB z) := by have := intB_small h; unfold Sized; omega
theorem sized_fits {z : Int} (h : Fits z) : Sized (intB z) := sized_int (fits250 h)
theorem sized_nil : Sized ⟨#[]⟩ := by unfold Sized; decide
/-- An operation on the integers that two texts are. -/
def op2 (f : Int → Int → ByteArray × Int) (x y : ByteArray) : ByteArray × Int :=
 match readI x, readI y with
 | some a, some b => f a b
 | _, _ => (⟨#[]⟩, 30)
theorem op2_ints {f : Int → Int → ByteArray × Int} {a b : Int} (ha : Fits a) (hb : Fits b) : op2 f (intB a) (intB b) = f a b := by unfold op2; rw [readI_int ha, readI_int hb]
def addF (a b : Int) : ByteArray × Int := (okS (a + b), okE (a + b))
def mulF (a b : Int) : ByteArray × Int := (okS (a * b), okE (a * b))
def gcdF (a b : Int) : ByteArray × Int := (intB (Int.gcd a b : Nat), 0)
def divS (x y : ByteArray) : ByteArray × ByteArray × Int :=
 match readI x, readI y with
 | some a, some b => if b = 0 then (⟨#[]⟩, ⟨#[]⟩, 30) else (intB (a / b), intB (a % b), 0)
 | _, _ => (⟨#[]⟩, ⟨#[]⟩, 30)
theorem divS_ints {a b : Int} (ha : Fits a) (hb : Fits b) (h : b ≠ 0) : divS (intB a) (intB b) = (intB (a / b), intB (a % b), 0) := by unfold divS; rw [readI_int ha, readI_int hb]; exact if_neg h
theorem sized_okS (z : Int) : Sized (okS z) := by
 unfold okS; split
 ·rename_i h; exact sized_fits h
 ·exact sized_nil
theorem str_cases (s t : ByteArray) (hs : Sized s) (ht : Sized t) :
  (∃ x y, s = intB x ∧ t = intB y ∧ Fits x ∧ Fits y) ∨ ((readI s = none ∨ readI t = none) ∧ ∀ w, Calls Tryz.prog 132 #[.string s, .string t] w fun e w' => e = .returned (.tuple #[.agg #[.bool false, .slice none 0 0], .agg #[.bool false, .slice none 0 0], .bool false]) ∧ Below w.heap.size w w') := by
 rcases both_cases s t hs ht with h | ⟨h1, h2⟩
 ·exact .inl h
 ·refine .inr ⟨?_, h2⟩
  rcases Bool.and_eq_false_iff.1 h1 with h | h
  ·exact .inl (readI_none h)
  ·exact .inr (readI_none h)
theorem op2_no {f : Int → Int → ByteArray × Int} {s t : ByteArray} (h : readI s = none ∨ readI t = none) : op2 f s t = (⟨#[]⟩, 30) := by
 unfold op2
 rcases h with h | h <;> rw [h]
 cases readI s <;> rfl
theorem divS_no {s t : ByteArray} (h : readI s = none ∨ readI t = none) : divS s t = (⟨#[]⟩, ⟨#[]⟩, 30) := by
 unfold divS
 rcases h with h | h <;> rw [h]
 cases readI s <;> rfl
/-- What a function on two texts answers, whatever they are. -/
def Op2 (h : Nat) (F : ByteArray → ByteArray → ByteArray × Int) : Prop :=
 (∀ args w, (callFunc h args).run Tryz.prog w = .ok (.enter h args) w) ∧ (∀ x y, Sized x → Sized y → Sized (F x y).1) ∧
 ∀ (x y : ByteArray) (w : World), Sized x → Sized y → Calls Tryz.prog h #[.string x, .string y] w (GivesInt (F x y).1 (F x y).2 w)
theorem sized_op2 {f : Int → Int → ByteArray × Int} (h : ∀ a b, Fits a → Fits b → Sized (f a b).1) (x y : ByteArray) : Sized (op2 f x y).1 := by
 unfold op2
 split
 ·rename_i a b h1 h2; exact h a b (readI_some h1).2 (readI_some h2).2
 ·exact sized_nil
theorem op2_add : Op2 86 (op2 addF) := by
 refine ⟨enters_of Tryz.func86 (by kernel_rfl) rfl, fun x y _ _ => sized_op2 (fun a b _ _ => sized_okS _) x y, fun x y w hx hy => ?_⟩
 rcases str_cases x y hx hy with ⟨a, b, rfl, rfl, ha, hb⟩ | ⟨h1, h2⟩
 ·rw [op2_ints ha hb]; exact add_ok a b ha hb w
 ·rw [op2_no h1]; exact add_any _ _ _ _ w (comb_no _ _ _ w (h2 w))
theorem op2_mul : Op2 80 (op2 mulF) := by
 refine ⟨enters_of Tryz.func80 (by kernel_rfl) rfl, fun x y _ _ => sized_op2 (fun a b _ _ => sized_okS _) x y, fun x y w hx hy => ?_⟩
 rcases str_cases x y hx hy with ⟨a, b, rfl, rfl, ha, hb⟩ | ⟨h1, h2⟩
 ·rw [op2_ints ha hb]; exact mul_ok a b ha hb w
 ·rw [op2_no h1]; exact mul_any _ _ _ _ w (comb_no _ _ _ w (h2 w))
theorem op2_gcd : Op2 106 (op2 gcdF) := by
 refine ⟨enters_of Tryz.func106 (by kernel_rfl) rfl, fun x y _ _ => sized_op2 (fun a b ha hb => sized_fits (gcd_fits ha hb)) x y, fun x y w hx hy => ?_⟩
 rcases str_cases x y hx hy with ⟨a, b, rfl, rfl, ha, hb⟩ | ⟨h1, h2⟩
 ·rw [op2_ints ha hb]; exact gcd_ok a b ha hb w
 ·rw [op2_no h1]; exact gcd_call _ _ _ _ w (comb_no _ _ _ w (h2 w))
theorem div_str (x y : ByteArray) (w : World) (hx : Sized x) (hy : Sized y) :
  Calls Tryz.prog 107 #[.string x, .string y] w fun e w' => e = .returned (.tuple #[.string (divS x y).1, .string (divS x y).2.1, .int .i64 (divS x y).2.2]) ∧ Below w.heap.size w w' := by
 rcases str_cases x y hx hy with ⟨a, b, rfl, rfl, ha, hb⟩ | ⟨h1, h2⟩
 ·by_cases h0 : b = 0
  ·subst h0
   have : divS (intB a) (intB 0) = (⟨#[]⟩, ⟨#[]⟩, 30) := by unfold divS; rw [readI_int ha, readI_int hb]; rfl
   rw [this]; exact div_zero a ha w
  ·rw [divS_ints ha hb h0]; exact div_ok a b ha hb h0 w
 ·rw [divS_no h1]; exact div_no _ _ w (h2 w)
theorem sized_divS (x y : ByteArray) : Sized (divS x y).1 ∧ Sized (divS x y).2.1 := by
 unfold divS
 split
 ·rename_i a b h1 h2
  split
  ·exact ⟨sized_nil, sized_nil⟩
  ·rename_i h0
   refine ⟨sized_fits (Nat.lt_of_le_of_lt (Int.natAbs_ediv_le_natAbs a b) (readI_some h1).2), sized_fits ?_⟩
   have h3 := (readI_some h2).2
   obtain ⟨_, e2, e3⟩ := ediv_spec a b h0
   unfold Fits at *; omega
 ·exact ⟨sized_nil, sized_nil⟩
end Go.Proofs.YtofmjkgaaphnkaaGreatDoor
/- LinVec: The contracts of product, sum and divided, whatever the texts. -/
namespace Go.Proofs.YtofmjkgaaphnkaaGreatDoor
open Go.RowKit Putlog

set_option maxRecDepth 100000 in
set_option maxHeartbeats 1000000 in
theorem product_c (x y : ByteArray) (W : World) (hx : Sized x) (hy : Sized y) : Calls Tryz.prog 52 #[.string x, .string y] W fun e w' => e = .returned (.string (op2 mulF x y).1) ∧ Below W.heap.size W w' := by
 have HC := Lib.hid (op2_mul.2.2 x y W hx hy)
 clear hx hy
 generalize (op2 mulF x y).1 = z at *
 generalize (op2 mulF x y).2 = k at *
 go_enter Tryz.func52, Tryz.ntmps52
 go_wp2_with fail
 refine HC.out.mono ?_
 rintro e w1 ⟨rfl, hB⟩
 go_wp2_with fail
 go_ret
 exact ⟨rfl, hB⟩
set_option maxRecDepth 100000 in
set_option maxHeartbeats 1000000 in
theorem sum_c (x y : ByteArray) (W : World) (hx : Sized x) (hy : Sized y) : Calls Tryz.prog 55 #[.string x, .string y] W fun e w' => e = .returned (.string (op2 addF x y).1) ∧ Below W.heap.size W w' := by
 have HC := Lib.hid (op2_add.2.2 x y W hx hy)
 clear hx hy
 generalize (op2 addF x y).1 = z at *
 generalize (op2 addF x y).2 = k at *
 go_enter Tryz.func55, Tryz.ntmps55
 go_wp2_with fail
 refine HC.out.mono ?_
 rintro e w1 ⟨rfl, hB⟩
 go_wp2_with fail
 go_ret
 exact ⟨rfl, hB⟩
def gcdS (c t : ByteArray) : ByteArray := (op2 gcdF c t).1
def gcdT (l : List ByteArray) : ByteArray := l.foldl gcdS ⟨#[48]⟩
def divL (l : List ByteArray) : List ByteArray := l.map fun t => (divS t (gcdT l)).1
def strV (l : List ByteArray) : List Value := l.map Value.string
theorem sized_gcdS {c t : ByteArray} (h1 : Sized c) (h2 : Sized t) : Sized (gcdS c t) := op2_gcd.2.1 c t h1 h2
theorem sized_fold : ∀ (l : List ByteArray) (c : ByteArray), Sized c → (∀ t ∈ l, Sized t) → Sized (l.foldl gcdS c)
 | [], _, h, _ => h
 | t :: l, c, h, hl => sized_fold l _ (sized_gcdS h (hl t (List.mem_cons_self ..))) (fun u hu => hl u (List.mem_cons_of_mem _ hu))
theorem StrsFrom.get {w : World} {a : Option Addr} {l : List ByteArray} (h : StrsFrom w a l) {k : Nat} (hk : k < l.length) : ∃ g o, a = some ⟨g, o, none⟩ ∧ w.cell? ⟨g, o + k, none⟩ = some (.string l[k]) := by
 rcases h with h0 | ⟨g, o, h1, h2⟩
 ·rw [h0] at hk; simp at hk
 ·refine ⟨g, o, h1, ?_⟩
  rw [h2 k hk, List.getD_eq_getElem?_getD, List.getElem?_eq_getElem hk]; rfl
set_option maxRecDepth 100000 in
set_option maxHeartbeats 2000000 in
theorem divided_c (l : List ByteArray) (a : Option Addr) (ca : Nat) (W : World) (hl : StrsFrom W a l) (hs : ∀ t ∈ l, Sized t) (hn : l.length ≤ ca) (hca : (ca : Int) ≤ 9223372036854775807) (hlb : l.length ≤ 1000000) :
  Calls Tryz.prog 77 #[.slice a l.length ca] W fun e w' => (∃ g : Nat, e = .returned (.slice (some ⟨g, 0, none⟩) l.length l.length) ∧ W.heap.size ≤ g ∧ BlkB 9 g (strV (divL l)) w') ∧ Below W.heap.size W w' := by
 obtain ⟨i0, hi0, hz0, hz1, hz2⟩ := info_ex inf_str
 have HI0 := Lib.hid hi0
 have HZ0 := Lib.hid hz0
 have HZ1 := Lib.hid hz1
 have HZ2 := Lib.hid hz2
 have HL := Lib.hid hl
 have HS := Lib.hid hs
 obtain ⟨n, hnn⟩ : ∃ n, n = l.length := ⟨_, rfl⟩
 have HN := Lib.hid hnn
 rw [← hnn] at hn ⊢
 have hnb : (n : Int) ≤ 1000000 := by omega
 have hnc : (n : Int) ≤ ca := by omega
 have HB := Lib.hid (Below.refl W.heap.size W)
 have h0 : Sized ⟨#[48]⟩ := by unfold Sized; decide
 have H0 := Lib.hid h0
 clear hi0 hz0 hz1 hz2 hl hs hnn hn h0
 go_enter Tryz.func77, Tryz.ntmps77
 go_wp2_with fail
 go_loopw [3, 11] (fun c i wr => ∃ k : Nat, k ≤ n ∧ i = .int .i64 k ∧ c = .string ((l.take k).foldl gcdS ⟨#[48]⟩) ∧ Below W.heap.size W wr) (fun _ i _ => n - (intOf i).toNat)
 case atStart => exact ⟨0, Nat.zero_le _, rfl, rfl, HB.out⟩
 case round =>
  clear HB
  obtain ⟨k, hk, rfl, rfl, hB⟩ := hrel
  by_cases hlt : k < n
  ·have hlt' : (k : Int) < n := by omega
   have hkl : k < l.length := by have := HN.out; omega
   obtain ⟨g, o, rfl, c0⟩ := HL.out.get hkl
   have c0 := keptBelow hB c0
   have htk : (l.take (k + 1)).foldl gcdS ⟨#[48]⟩ = gcdS ((l.take k).foldl gcdS ⟨#[48]⟩) l[k] := by
    rw [List.take_succ_eq_append_getElem hkl, List.foldl_append]; rfl
   have HTK := Lib.hid htk
   have hsc := sized_fold (l.take k) ⟨#[48]⟩ H0.out (fun t ht => HS.out t (List.mem_of_mem_take ht))
   have hst := HS.out l[k] (List.getElem_mem hkl)
   have HC := Lib.hid (op2_gcd.2.2 ((l.take k).foldl gcdS ⟨#[48]⟩) l[k] wr hsc hst)
   have HB := Lib.hid hB
   have e1 : (op2 gcdF ((l.take k).foldl gcdS ⟨#[48]⟩) l[k]).1 = gcdS ((l.take k).foldl gcdS ⟨#[48]⟩) l[k] := rfl
   rw [e1, ← htk] at HC
   clear htk hsc hst hB e1 HTK
   generalize (op2 gcdF ((l.take k).foldl gcdS ⟨#[48]⟩) l[k]).2 = q at *
   obtain ⟨c1, hc1⟩ : ∃ c1, c1 = (l.take (k + 1)).foldl gcdS ⟨#[48]⟩ := ⟨_, rfl⟩
   rw [← hc1] at HC
   have HC1 := Lib.hid hc1
   clear hc1
   generalize (l.take k).foldl gcdS ⟨#[48]⟩ = c at *
   generalize l[k] = t at *
   clear hkl
   go_wp2_with fail
   refine HC.out.mono ?_
   rintro e w2 ⟨rfl, hB2⟩
   have HB2 := Lib.hid (belowVia hB2 HB.out)
   clear hB2
   go_wp2_with fail
   go_roundw
   case rel => exact ⟨k + 1, by omega, by go_num, by rw [HC1.out], HB2.out⟩
   case measure => simp [intOf]; omega
  ·obtain rfl : n = k := by omega
   have htk : l.take n = l := List.take_of_length_le (by have := HN.out; omega)
   rw [htk]
   obtain ⟨G, hG⟩ : ∃ G, G = gcdT l := ⟨_, rfl⟩
   have hG' : List.foldl gcdS ⟨#[48]⟩ l = G := hG.symm
   rw [hG']
   have HG := Lib.hid hG
   have hsG : Sized G := by rw [hG]; exact sized_fold l ⟨#[48]⟩ H0.out HS.out
   have HSG := Lib.hid hsG
   have HB := Lib.hid hB
   clear htk hG hG' hsG hB hlt hk
   go_wp2_with (at_make; go_must (refine wpList_make_full _ rfl _ _ 28 rfl wr.heap.size 9 i0 (.string ⟨#[]⟩) 1 Tryz.underlying28 HI0.out HZ0.out HZ1.out .i64 .i64 (n : Int) (n : Int) n rfl rfl rfl rfl (by rw [HZ2.out]; omega) (by unfold maxLen; omega) (Nat.le_refl _) ?_); intro w1 hown hgrow; have HR := Lib.hid (blk_made (z := .string ⟨#[]⟩) rfl hown); have hBm := belowMadeL hgrow; have HB1 := Lib.hid (belowVia hBm HB.out); have HWR := Lib.hid HB.out.size; clear hown hgrow hBm)
   generalize wr.heap.size = p at *
   clear HB
   go_loopw [27] (fun i wx => ∃ k : Nat, k ≤ n ∧ i = .int .i64 k ∧ BlkB 9 p (strV ((divL l).take k) ++ List.replicate (n - k) (.string ⟨#[]⟩)) wx ∧ Below W.heap.size W wx) (fun i _ => n - (intOf i).toNat)
   case atStart => exact ⟨0, Nat.zero_le _, rfl, by simpa [strV] using HR.out, HB1.out⟩
   case round =>
    clear HR HB1
    obtain ⟨k, hk, rfl, hblk, hB⟩ := hrel
    by_cases hlt : k < n
    ·have hlt' : (k : Int) < n := by omega
     have hkl : k < l.length := by have := HN.out; omega
     obtain ⟨g, o, rfl, c0⟩ := HL.out.get hkl
     have c0 := keptBelow hB c0
     have HC := Lib.hid (div_str l[k] G wr (HS.out l[k] (List.getElem_mem hkl)) HSG.out)
     have hdl : (divL l)[k]? = some (divS l[k] G).1 := by unfold divL; rw [List.getElem?_map, List.getElem?_eq_getElem hkl, ← HG.out]; rfl
     have hpl : (strV ((divL l).take k)).length = k := by unfold strV; rw [List.length_map, List.length_take]; unfold divL; rw [List.length_map]; omega
     have hrp : List.replicate (n - k) (Value.string ⟨#[]⟩) = .string ⟨#[]⟩ :: List.replicate (n - (k + 1)) (.string ⟨#[]⟩) := by
      rw [show n - k = (n - (k + 1)) + 1 by omega, List.replicate_succ]
     have htk : strV ((divL l).take (k + 1)) = strV ((divL l).take k) ++ [.string (divS l[k] G).1] := by
      unfold strV
      rw [List.take_add_one, hdl, List.map_append]; rfl
     rw [hrp] at hblk
     have HBK := Lib.hid hblk
     have HPL := Lib.hid hpl
     have HTK := Lib.hid htk
     have HB := Lib.hid hB
     clear hrp hblk hpl htk hdl hB
     generalize (divS l[k] G).1 = q1 at *
     generalize (divS l[k] G).2.1 = q2 at *
     generalize (divS l[k] G).2.2 = q3 at *
     generalize l[k] = t at *
     go_wp2_with fail
     refine HC.out.mono ?_
     rintro e w2 ⟨rfl, hB2⟩
     have hb2 := HBK.out.via hB2
     have d1 := hb2.cell (mid_one _ _ _ HPL.out)
     have d2 := hb2.froz k
     have HBK2 : Hid (BlkB 9 p (strV ((divL l).take (k + 1)) ++ List.replicate (n - (k + 1)) (.string ⟨#[]⟩)) (w2.setCell ⟨p, k, none⟩ (.string q1))) := Lib.hid (by
      have := hb2.set k (.string q1)
      rw [mid_put _ _ _ _ HPL.out] at this
      rw [HTK.out, List.append_assoc]; exact this)
     have HB2 : Hid (Below W.heap.size W (w2.setCell ⟨p, k, none⟩ (.string q1))) := Lib.hid ((belowVia hB2 HB.out).setCell (p := ⟨p, k, none⟩) HWR.out _)
     clear hb2 hB2 HBK HB HTK
     go_wp2_with fail
     go_roundw
     case rel => exact ⟨k + 1, by omega, by go_num, HBK2.out, HB2.out⟩
     case measure => simp [intOf]; omega
    ·obtain rfl : n = k := by omega
     have htk : (divL l).take n = divL l := List.take_of_length_le (by unfold divL; rw [List.length_map]; have := HN.out; omega)
     rw [htk, Nat.sub_self, List.replicate_zero, List.append_nil] at hblk
     have HBK := Lib.hid hblk
     have HB := Lib.hid hB
     clear htk hblk hB
     go_wp2_with fail
     go_ret
     exact ⟨⟨p, rfl, HWR.out, HBK.out⟩, HB.out⟩
end Go.Proofs.YtofmjkgaaphnkaaGreatDoor
/- LinRep: The contract of slices.Repeat, for a slice of one string. -/
namespace Go.Proofs.YtofmjkgaaphnkaaGreatDoor
open Go.RowKit Putlog

theorem splice_rep {α : Type} (x y : α) {n c m : Nat} (h : n + m ≤ c) : splice (List.replicate n x ++ List.replicate (c - n) y) n (List.replicate m x) = List.replicate (n + m) x ++ List.replicate (c - (n + m)) y := by
 unfold splice
 rw [List.take_append_of_le_length (by simp), List.take_of_length_le (by simp), List.length_replicate, List.drop_append, List.drop_of_length_le (by simp)]
 simp only [List.length_replicate, List.nil_append, List.drop_replicate, List.replicate_append_replicate, List.append_assoc]
 rw [← List.append_assoc, List.replicate_append_replicate]
 congr 2; omega
set_option maxRecDepth 100000 in
set_option maxHeartbeats 2000000 in
theorem repeat_c (x : ByteArray) (c g : Nat) (W : World) (hc : c ≤ 64) (hx : W.cell? ⟨g, 0, none⟩ = some (.string x)) :
  Calls Tryz.prog 71 #[.slice (some ⟨g, 0, none⟩) 1 1, .int .i64 c] W fun e w' => (∃ p : Nat, e = .returned (.slice (some ⟨p, 0, none⟩) c c) ∧ W.heap.size ≤ p ∧ BlkB 9 p (List.replicate c (.string x)) w') ∧ Below W.heap.size W w' := by
 obtain ⟨i0, hi0, hz0, hz1, hz2⟩ := info_ex inf_str
 have HI0 := Lib.hid hi0
 have HZ0 := Lib.hid hz0
 have HZ1 := Lib.hid hz1
 have HZ2 := Lib.hid hz2
 have hc64 : (c : Int) ≤ 64 := by omega
 have HX := Lib.hid hx
 have hcu : IntKind.u64.wrap (c : Int) = c := by rw [IntKind.wrap_u64]; omega
 have hci : IntKind.i64.wrap (c : Int) = c := by rw [IntKind.wrap_i64]; omega
 have hmul : ∀ w, Calls Tryz.prog 96 #[.int .u64 1, .int .u64 c] w fun e w' => e = .returned (.tuple #[.int .u64 0, .int .u64 c]) ∧ w' = w := fun w => by
  have := Tryz.bits_Mul 1 c (by decide) (by omega) w
  rw [show ((1 * c / 18446744073709551616 : Nat) : Int) = 0 by omega, show ((1 * c % 18446744073709551616 : Nat) : Int) = c by omega] at this
  exact this
 have HMU := Lib.hid hmul
 obtain ⟨n0, hn0⟩ : ∃ n0, n0 = Nat.min 1 c := ⟨_, rfl⟩
 have h01 : n0 ≤ 1 := by rw [hn0]; exact Nat.min_le_left 1 c
 have h0c : n0 ≤ c := by rw [hn0]; exact Nat.min_le_right 1 c
 have h0p : 0 < c → n0 = 1 := fun h => by rw [hn0]; exact Nat.min_eq_left h
 have hsrc : ∀ w', Below W.heap.size W w' → ∀ j v, (List.replicate n0 (Value.string x))[j]? = some v → w'.cell? ((⟨g, 0, none⟩ : Addr).add j) = some v := fun w' hb j v hv => by
  rw [List.getElem?_replicate] at hv
  split at hv
  ·rename_i hj
   cases hv
   obtain rfl : j = 0 := by omega
   exact keptBelow hb hx
  ·cases hv
 have hone : ∀ n, ∀ v ∈ List.replicate n (Value.string x), v.oneCell' = true := fun n v hv => by rw [List.eq_of_mem_replicate hv]; rfl
 have HSRC := Lib.hid hsrc
 have HONE := Lib.hid hone
 have HN0 := Lib.hid (And.intro hn0 (And.intro h01 (And.intro h0c h0p)))
 have HF0 : Hid (0 + (List.replicate n0 (Value.string x)).length ≤ (List.replicate c (Value.string ⟨#[]⟩)).length) := Lib.hid (by rw [List.length_replicate, List.length_replicate]; omega)
 clear hi0 hz0 hz1 hz2 hx hc hmul hsrc hone hn0 h01 h0c h0p
 go_enter Tryz.func71, Tryz.ntmps71
 go_wp2_with fail
 refine (HMU.out _).mono ?_
 rintro e w1 ⟨rfl, rfl⟩
 go_wp2_with (first
  | (at_make; go_must (refine wpList_make_full _ rfl _ _ 28 rfl w1.heap.size 9 i0 (.string ⟨#[]⟩) 1 Tryz.underlying28 HI0.out HZ0.out HZ1.out .i64 .i64 (c : Int) (c : Int) c rfl rfl rfl rfl (by rw [HZ2.out]; omega) (by unfold maxLen; omega) (Nat.le_refl _) ?_); intro w2 hown hgrow; have HR := Lib.hid (blk_made (z := .string ⟨#[]⟩) rfl hown); have HBm := Lib.hid (belowMadeL hgrow); clear hown hgrow)
  | ((refine wpList_copy_splice rfl (.tmp 31) (.tmp 32) 28 28 rfl 9 Tryz.underlying28 (by kernel_rfl) (some ⟨w1.heap.size, 0, none⟩) (some ⟨g, 0, none⟩) c c 1 1 rfl rfl w1.heap.size 0 (List.replicate c (.string ⟨#[]⟩)) 9 HR.out (List.replicate n0 (.string x)) (by rw [List.length_replicate]; exact HN0.out.1) (fun _ => ⟨rfl, _, rfl, HSRC.out _ HBm.out⟩) HF0.out (HONE.out n0) w1.heap.size w1 HBm.out (Nat.le_refl _) (fun w3 hrow hB => ?_)); simp only [List.length_replicate]))
 have hrow' : BlkB 9 w1.heap.size (List.replicate n0 (.string x) ++ List.replicate (c - n0) (.string ⟨#[]⟩)) w3 := by
  have := hrow.out
  have e := splice_rep (Value.string x) (Value.string ⟨#[]⟩) (n := 0) (c := c) (m := n0) (by have := HN0.out.2.2.1; omega)
  rw [Nat.sub_zero, List.replicate_zero, List.nil_append, Nat.zero_add] at e
  rw [e] at this
  exact this
 have HROW := Lib.hid hrow'
 have HB := Lib.hid hB
 clear hrow hrow' hB HR HBm
 go_loopw [8] (fun i wr => ∃ n : Nat, n ≤ c ∧ (0 < c → 0 < n) ∧ i = .int .i64 n ∧ BlkB 9 w1.heap.size (List.replicate n (.string x) ++ List.replicate (c - n) (.string ⟨#[]⟩)) wr ∧ Below w1.heap.size w1 wr) (fun i _ => c - (intOf i).toNat)
 case atStart => exact ⟨n0, HN0.out.2.2.1, fun h => by have := HN0.out.2.2.2 h; omega, rfl, HROW.out, HB.out⟩
 case round =>
  clear HROW HB
  obtain ⟨n, hn, hnp, rfl, hrow, hB⟩ := hrel
  have HROW := Lib.hid hrow
  have HB := Lib.hid hB
  clear hrow hB
  by_cases hlt : n < c
  ·have hlt' : (n : Int) < c := by omega
   have hn0' : 0 < n := hnp (by omega)
   obtain ⟨m, hm⟩ : ∃ m, m = Nat.min n (c - n) := ⟨_, rfl⟩
   have hm1 : m ≤ n := by rw [hm]; exact Nat.min_le_left _ _
   have hm2 : m ≤ c - n := by rw [hm]; exact Nat.min_le_right _ _
   have hm3 : 0 < m := by rw [hm]; exact Nat.lt_min.2 ⟨hn0', by omega⟩
   have HMM := Lib.hid hm
   have HSP := Lib.hid (splice_rep (Value.string x) (Value.string ⟨#[]⟩) (n := n) (c := c) (m := m) (by omega))
   have HFIT : Hid (n + (List.replicate m (Value.string x)).length ≤ (List.replicate n (Value.string x) ++ List.replicate (c - n) (Value.string ⟨#[]⟩)).length) := Lib.hid (by simp; omega)
   have HSR : Hid (∀ w', Below wr.heap.size wr w' → ∀ j v, (List.replicate m (Value.string x))[j]? = some v → w'.cell? ((⟨w1.heap.size, 0, none⟩ : Addr).add j) = some v) := Lib.hid (fun w' hb j v hv => by
    rw [List.getElem?_replicate] at hv
    split at hv
    ·rename_i hj
     cases hv
     rw [Addr.add_mid, Nat.zero_add]
     refine keptBelow hb (HROW.out.cell ?_)
     rw [List.getElem?_append_left (by simp; omega), List.getElem?_replicate, if_pos (by omega)]
    ·cases hv)
   have hwm : IntKind.i64.wrap ((n : Int) + m) = ((n + m : Nat) : Int) := by rw [IntKind.wrap_i64]; omega
   have hcne : ¬ c = n := by omega
   have hcn : (c : Int) - n = ((c - n : Nat) : Int) := by omega
   have HBD := Lib.hid HB.out.drew
   have HRD : Hid (wr.drew.heap[w1.heap.size]? = some (.cells (List.replicate n (Value.string x) ++ List.replicate (c - n) (Value.string ⟨#[]⟩)).toArray 9 (0, 0))) := Lib.hid HROW.out
   clear hm
   go_wp2_with fail
   refine wp_region_K (fun _ => True) 9 (by kernel_rfl) ?_
   refine wpK_tk (i := 0) (d := some 38) (v := ?_) rfl rfl (.inl ⟨by rfl, fun w hw => ?_⟩) trivial ?_
   rotate_left
   ·clear hw; go_simp; with_reducible rfl
   try simp only [Act.put, tA, tB, tC]
   refine wpK_tk (i := 1) (d := some 39) (v := ?_) rfl rfl (.inl ⟨by rfl, fun w hw => ?_⟩) trivial ?_
   rotate_left
   ·clear hw; go_simp; with_reducible rfl
   try simp only [Act.put, tA, tB, tC]
   refine wpK_tk (i := 2) (d := some 40) (v := ?_) rfl rfl (.inl ⟨by rfl, fun w hw => ?_⟩) trivial ?_
   rotate_left
   ·clear hw; go_simp; with_reducible rfl
   try simp only [Act.put, tA, tB, tC]
   refine wpK_tk (i := 3) (d := some 41) (v := ?_) rfl rfl (.inl ⟨by rfl, fun w hw => ?_⟩) trivial ?_
   rotate_left
   ·clear hw; go_simp; with_reducible rfl
   try simp only [Act.put, tA, tB, tC]
   refine wpK_tk (i := 4) (d := some 42) (v := ?_) rfl rfl (.inl ⟨by rfl, fun w hw => ?_⟩) trivial ?_
   rotate_left
   ·clear hw; go_simp; with_reducible rfl
   try simp only [Act.put, tA, tB, tC]
   refine wpK_tk (i := 5) (d := some 43) (v := ?_) rfl rfl (.inl ⟨by rfl, fun w hw => ?_⟩) trivial ?_
   rotate_left
   ·clear hw; go_simp; with_reducible rfl
   try simp only [Act.put, tA, tB, tC]
   refine wpK_tk (i := 6) (d := some 44) (v := ?_) rfl rfl (.inl ⟨by rfl, fun w hw => ?_⟩) trivial ?_
   rotate_left
   ·clear hw; go_simp; with_reducible rfl
   try simp only [Act.put, tA, tB, tC]
   refine wpK_step (i := 7) (by kernel_rfl) rfl rfl (step_copy_splice rfl (.tmp 41) (.tmp 44) 28 28 rfl 9 Tryz.underlying28 (by kernel_rfl) (some ⟨w1.heap.size, n, none⟩) (some ⟨w1.heap.size, 0, none⟩) (c - n) (c - n) n c rfl rfl w1.heap.size n (List.replicate n (Value.string x) ++ List.replicate (c - n) (Value.string ⟨#[]⟩)) 9 HRD.out (List.replicate m (.string x)) (by rw [List.length_replicate]; exact HMM.out) (fun _ => ⟨rfl, _, rfl, HSR.out _ (Below.refl _ _).drew⟩) HFIT.out (HONE.out m) w1.heap.size w1 HBD.out (Nat.le_refl _) (fun w4 hrow hB => ?_))
   refine ⟨(fun _ => trivial), ?_⟩
   simp only [List.length_replicate, List.getElem_toArray, List.getElem_cons_zero, List.getElem_cons_succ]
   try simp only [Act.put, tA, tB, tC]
   refine wpK_tk (i := 8) (d := some 46) (v := ?_) rfl rfl (.inl ⟨by rfl, fun w hw => ?_⟩) trivial ?_
   rotate_left
   ·clear hw; go_simp; with_reducible rfl
   try simp only [Act.put, tA, tB, tC]
   refine wpK_lastY (i := 9) (d := some 8) (v := ?_) (by kernel_rfl) rfl rfl (by kernel_rfl) (by kernel_rfl) (.inl ⟨by rfl, fun w hw => ?_⟩) trivial ?_
   rotate_left
   ·clear hw; go_simp; with_reducible rfl
   try simp only [Act.put, tA, tB, tC]
   have hrow2 : BlkB 9 w1.heap.size (List.replicate (n + m) (.string x) ++ List.replicate (c - (n + m)) (.string ⟨#[]⟩)) w4 := by
    have := hrow.out
    rw [HSP.out] at this
    exact this
   have HR2 := Lib.hid hrow2
   have HB2 := Lib.hid hB
   clear hrow hrow2 hB
   go_wp2_with fail
   go_roundw
   case rel => exact ⟨n + m, by omega, fun _ => by omega, rfl, HR2.out, HB2.out⟩
   case measure => simp [intOf]; omega
  ·obtain rfl : n = c := by omega
   have hrow : BlkB 9 w1.heap.size (List.replicate n (.string x)) wr := by have := HROW.out; rw [Nat.sub_self, List.replicate_zero, List.append_nil] at this; exact this
   have HR2 := Lib.hid hrow
   clear hrow
   go_wp2_with fail
   go_ret
   exact ⟨⟨_, rfl, Nat.le_refl _, HR2.out⟩, HB.out⟩
end Go.Proofs.YtofmjkgaaphnkaaGreatDoor
