/- ClockMatchesReference: what the law's body answers. -/
import Derived.Test.YtiakjaglnjecgaaClkSame
import Derived.Test.YtiakjaglnjecgaaClkFew
import Derived.Test.YtiakjaglnjecgaaClkRefAgree
import Derived.Test.YtiakjaglnjecgaaClkRefValid
import Derived.Test.YtiakjaglnjecgaaClkMade
import Derived.Deep.DeepCutAuto
import Derived.Deep.RegionHeld3
namespace Go.Proofs.Ytiakjaglnjecgaa
open Go.RowKit Putlog

theorem sps_first {w : World} {a : Option Addr} {c : Nat} {l : List Sp} (h : SpsAt w (.slice a l.length c) l) (m : Nat) (hm : m ≤ l.length) : SpsAt w (.slice a m c) (l.take m) := by
  obtain ⟨⟨a', c', he, h1, h2, h3⟩, h4⟩ := h
  cases he
  have hl : (l.take m).length = m := by rw [List.length_take]; omega
  refine ⟨⟨a, c, by rw [hl], by omega, h2, ?_⟩, fun r hr => h4 r (List.mem_of_mem_take hr)⟩
  rcases h3 with h3 | ⟨g, o, e, h3⟩
  · subst h3; exact .inl (by simp)
  · refine .inr ⟨g, o, e, fun j hj => ?_⟩
    have := h3 j (by omega)
    rwa [List.getD_eq_getElem?_getD, List.getElem?_take_of_lt (by omega), ← List.getD_eq_getElem?_getD]
theorem s5Keep {v w w1 : World} {p q r i j : Nat} {x y z u : Value} (h : w.cell? ⟨p, 0, none⟩ = some x ∧ w.cell? ⟨p, 1, none⟩ = some y ∧ w.cell? ⟨q, i, none⟩ = some z ∧ w.cell? ⟨r, j, none⟩ = some u ∧ Below v.heap.size v w) (hB : Below w.heap.size w w1) : w1.cell? ⟨p, 0, none⟩ = some x ∧ w1.cell? ⟨p, 1, none⟩ = some y ∧ w1.cell? ⟨q, i, none⟩ = some z ∧ w1.cell? ⟨r, j, none⟩ = some u ∧ Below v.heap.size v w1 :=
  ⟨keptBelow hB h.1, keptBelow hB h.2.1, keptBelow hB h.2.2.1, keptBelow hB h.2.2.2.1, belowVia hB h.2.2.2.2⟩
theorem nums_newM (w : World) (l : List Int) (t : TypeId) : NumsIn (w.alloc (.cells (l.map (Value.int .i64)).toArray t)) (some ⟨w.heap.size, 0, none⟩) l := .inr ⟨_, 0, rfl, fun j hj => by
  refine cell_rowN _ _ _ _ ?_
  rw [Nat.zero_add, List.getElem?_toArray, List.getElem?_map, List.getElem?_eq_getElem hj, List.getD_eq_getElem?_getD, List.getElem?_eq_getElem hj]; rfl⟩
theorem s3KeepC {v w w1 : World} {p : Nat} {x y : Value} (h : w.cell? ⟨p, 0, none⟩ = some x ∧ w.cell? ⟨p, 1, none⟩ = some y ∧ Below v.heap.size v w) (hB : Below w.heap.size w w1) : w1.cell? ⟨p, 0, none⟩ = some x ∧ w1.cell? ⟨p, 1, none⟩ = some y ∧ Below v.heap.size v w1 :=
  ⟨keptBelow hB h.1, keptBelow hB h.2.1, belowVia hB h.2.2⟩
set_option maxRecDepth 100000 in
set_option maxHeartbeats 8000000 in
theorem Matches_calls (c0 : Int) (x : Value) (rw : List Rd) (drift start : Int) (rates : List Int) (A : List Rd) (vr va : Value) (local_ t : Int) (l0 : List Sp) (vl : Value) (W : World) (hx : RdsAt W x rw) (h0 : I64 drift) (h1 : I64 start) (hr : NumsAt W vr rates) (hri : ∀ x ∈ rates, I64 x) (hA : RdsAt W va A) (h4 : I64 local_) (h5 : I64 t) (h6 : SpsAt W vl l0) :
    Calls Try.prog 3 #[.agg #[.int .i64 c0, x], .int .i64 drift, .int .i64 start, vr, va, .int .i64 local_, .int .i64 t, vl] W fun e w' => e = .returned (.bool true) ∧ Below W.heap.size W w' := by
  have HM := Lib.hid (fun w (hB : Below W.heap.size W w) => made_any drift start rates A vr va w h0 h1 (hr.via hB) hri (hA.via hB))
  have HPL := Lib.hid (fun w => pick_any local_ 5000 h4.1 h4.2 (by decide) (by decide) w)
  have HPT := Lib.hid (fun w => pick_any t 5000 h5.1 h5.2 (by decide) (by decide) w)
  obtain ⟨sf, sg, hsp⟩ := both_spread drift local_
  have HSP := Lib.hid hsp
  have HX := Lib.hid (ClockAt.new (d := c0) hx)
  have HSS := Lib.hid h6
  obtain ⟨⟨a, c, rfl, hc, hcb, _⟩, _⟩ := h6
  obtain ⟨m, hm⟩ : ∃ m : Nat, m = min l0.length 20 := ⟨_, rfl⟩
  have HS := Lib.hid (sps_first HSS.out m (by omega))
  have hmi : min (l0.length : Int) 20 = (m : Int) := by omega
  have hmi2 : (if (20 : Int) < (l0.length : Int) then (20 : Int) else (l0.length : Int)) = (m : Int) := by split <;> omega
  have hml : (l0.take m).length = m := by rw [List.length_take]; omega
  have hmc : (m : Int) ≤ c := by omega
  have hln : (l0.length : Int) ≤ c := by omega
  have HA1 := Lib.hid (fun w (hB : Below W.heap.size W w) => agree_any (l0.take m) (by omega) _ w (HS.out.via hB))
  have HA2 := Lib.hid (fun w (hB : Below W.heap.size W w) => ragree_any (l0.take m) (by omega) _ w (HS.out.via hB))
  clear hsp hx hr hri hA h0 h1 h4 h5 hml HS HSS
  generalize l0.take m = l1 at *
  generalize l0.length = n0 at *
  generalize pkN local_ 5000 = L5 at *
  generalize pkN t 5000 = T5 at *
  have hm' : min n0 20 = m := hm.symm
  clear hm
  go_enter Try.func3, Try.ntmps3
  go_wp2_with fail
  have HW := Lib.hid (alloc_below W (.cells #[.int .i64 c0, x] 24))
  generalize W.alloc (.cells #[.int .i64 c0, x] 24) = w0 at *
  refine (sane_any w0).mono ?_
  rintro e w1 ⟨rfl, hB⟩
  have HW := Lib.hid (belowVia hB HW.out)
  have HX := Lib.hid (HX.out.via hB)
  clear hB
  go_wp2_with fail
  refine (HSP.out _).1.mono ?_
  rintro e w2 ⟨rfl, hB⟩
  have HW := Lib.hid (belowVia hB HW.out)
  have HX := Lib.hid (HX.out.via hB)
  clear hB
  go_wp2_with fail
  refine (HSP.out _).2.mono ?_
  rintro e w3 ⟨rfl, rfl⟩
  clear HSP
  go_wp2_with fail
  refine (HA1.out _ HW.out).mono ?_
  rintro e w4 ⟨A1, B1, K1, rfl, hag1, hB⟩
  have HW := Lib.hid (belowVia hB HW.out)
  have HX := Lib.hid (HX.out.via hB)
  clear hB HA1
  have HG1 := Lib.hid hag1
  clear hag1
  go_wp2_with fail
  have hB := alloc_below w4 (.cells #[.int .i64 A1, .int .i64 B1] 32)
  have P1 := Lib.hid (heap_alloc_new w4 (.cells #[.int .i64 A1, .int .i64 B1] 32))
  have HW := Lib.hid (belowVia hB HW.out)
  have HX := Lib.hid (HX.out.via hB)
  clear hB
  generalize w4.alloc (.cells #[.int .i64 A1, .int .i64 B1] 32) = w5 at *
  generalize w4.heap.size = q1 at *
  refine (HA2.out _ HW.out).mono ?_
  rintro e w6 ⟨A2, B2, K2, rfl, hag2, hB⟩
  obtain ⟨rfl, rfl, rfl⟩ := Agreed.uniq hag2 HG1.out
  have HW := Lib.hid (belowVia hB HW.out)
  have HX := Lib.hid (HX.out.via hB)
  have P1 := Lib.hid (heap_below hB P1.out)
  clear hB HA2 hag2 HG1
  have hB := alloc_below w6 (.cells #[.int .i64 A2, .int .i64 B2] 32)
  have q0 := (cell_of_row _ _ 0 _ _ _ (heap_below hB P1.out)).trans (by rfl : _ = some (.int .i64 A2))
  have q1' := (cell_of_row _ _ 1 _ _ _ (heap_below hB P1.out)).trans (by rfl : _ = some (.int .i64 B2))
  have p0 := (cell_of_row _ _ 0 _ _ _ (heap_alloc_new w6 (.cells #[.int .i64 A2, .int .i64 B2] 32))).trans (by rfl : _ = some (.int .i64 A2))
  have p1 := (cell_of_row _ _ 1 _ _ _ (heap_alloc_new w6 (.cells #[.int .i64 A2, .int .i64 B2] 32))).trans (by rfl : _ = some (.int .i64 B2))
  have HW := Lib.hid (belowVia hB HW.out)
  have HX := Lib.hid (HX.out.via hB)
  clear hB P1
  have n1 : (sf != sf) = false := by simp
  have n2 : (sg != sg) = false := by simp
  have n3 : (A2 != A2) = false := by simp
  have n4 : (B2 != B2) = false := by simp
  have n5 : (K2 != K2) = false := by simp
  have r0 := HX.out.c0
  have r1 := HX.out.c1
  go_wp2_with fail
  clear q0 q1' p0 p1 r0 r1 n1 n2 n3 n4 n5 hmi hmi2 hm' hmc hln
  generalize w6.alloc (.cells #[.int .i64 A2, .int .i64 B2] 32) = w7 at *
  generalize w6.heap.size = q2 at *
  refine (few_any c0 rw x _ HX.out.rd).mono ?_
  rintro e w8 ⟨x2, rfl, hr2, hB⟩
  have HW := Lib.hid (belowVia hB HW.out)
  have HR2 := Lib.hid hr2
  clear hB hr2 HX
  go_wp2_with fail
  refine (HM.out _ HW.out).mono ?_
  rintro e w9 ⟨rs3, x3, rfl, hmd, hx3, hB⟩
  have HW := Lib.hid (belowVia hB HW.out)
  have HR2 := Lib.hid (HR2.out.via hB)
  have HR3 := Lib.hid hx3
  clear hB hx3 hmd HM
  generalize pkN drift 101 = d3 at *
  go_wp2_with fail
  have hB := alloc_below w9 (.cells #[.int .i64 c0, x2, .int .i64 d3, x3] 24)
  have G0 := (cell_of_row _ _ 0 _ _ _ (heap_alloc_new w9 (.cells #[.int .i64 c0, x2, .int .i64 d3, x3] 24))).trans (by rfl : _ = some (.int .i64 c0))
  have G1 := (cell_of_row _ _ 1 _ _ _ (heap_alloc_new w9 (.cells #[.int .i64 c0, x2, .int .i64 d3, x3] 24))).trans (by rfl : _ = some x2)
  have G2 := (cell_of_row _ _ 2 _ _ _ (heap_alloc_new w9 (.cells #[.int .i64 c0, x2, .int .i64 d3, x3] 24))).trans (by rfl : _ = some (.int .i64 d3))
  have G3 := (cell_of_row _ _ 3 _ _ _ (heap_alloc_new w9 (.cells #[.int .i64 c0, x2, .int .i64 d3, x3] 24))).trans (by rfl : _ = some x3)
  have HW := Lib.hid (belowVia hB HW.out)
  have HR2 := Lib.hid (HR2.out.via hB)
  have HR3 := Lib.hid (HR3.out.via hB)
  clear hB
  generalize w9.alloc (.cells #[.int .i64 c0, x2, .int .i64 d3, x3] 24) = wa at *
  generalize w9.heap.size = g at *
  have HCS : Hid (∀ k : Nat, k < 2 → ∃ (d : Int) (v : Value) (rs : List Rd), wa.cell? ⟨g, k * 2, none⟩ = some (.int .i64 d) ∧ wa.cell? ⟨g, k * 2 + 1, none⟩ = some v ∧ RdsAt wa v rs) := by
    show ∀ k : Nat, k < 2 → _
    intro k hk
    rcases (by omega : k = 0 ∨ k = 1) with rfl | rfl
    · exact ⟨_, _, _, G0, G1, HR2.out⟩
    · exact ⟨_, _, _, G2, G3, HR3.out⟩
  clear G0 G1 G2 G3 HR2 HR3

  go_loopw [27] (fun i wr => ∃ k : Nat, k ≤ 2 ∧ i = .int .i64 k ∧ Below wa.heap.size wa wr) (fun i _ => 2 - (intOf i).toNat)
  case atStart => exact ⟨0, Nat.zero_le _, rfl, Below.refl _ _⟩
  case round =>
    obtain ⟨k, hk, rfl, hB⟩ := hrel
    have HB := Lib.hid hB
    clear hB
    by_cases hlt : k < 2
    · have hlt' : (k : Int) < 2 := by omega
      obtain ⟨d, v, rs, e0, e1, hrd⟩ := HCS.out k hlt
      have hrd := hrd.via HB.out
      have e0 := keptBelow HB.out e0
      have e1 := keptBelow HB.out e1
      obtain ⟨xa, xc, hxe, _, _, _⟩ := hrd.at_
      subst hxe
      have HC := Lib.hid (ClockAt.new (d := d) hrd)
      have HB := Lib.hid (belowVia (alloc_below wr (.cells #[.int .i64 d, .slice xa rs.length xc] 24)) HB.out)
      have HV1 := Lib.hid (fun w h => valid_any d rs (.slice xa rs.length xc) w h)
      have HV2 := Lib.hid (fun w h => rvalid_any d rs (.slice xa rs.length xc) w h)
      have HB1 := Lib.hid (fun l t w h => before_any d l t rs (.slice xa rs.length xc) w h)
      have HB2 := Lib.hid (fun l t w h => rbefore_any d l t rs (.slice xa rs.length xc) w h)
      have HF1 := Lib.hid (fun l t w h => after_any d l t rs (.slice xa rs.length xc) w h)
      have HF2 := Lib.hid (fun l t w h => rafter_any d l t rs (.slice xa rs.length xc) w h)
      have HAT := Lib.hid (fun l => both_at d l rs)
      have HRE := Lib.hid (fun t => both_reads d t rs)
      clear hrd
      obtain ⟨n, hn⟩ : ∃ n, n = rs.length := ⟨_, rfl⟩
      rw [← hn] at HC HB HV1 HV2 HB1 HB2 HF1 HF2 e1
      clear hn
      go_upto_region 15 with fail
      clear e0 e1
      generalize wr.alloc (.cells #[.int .i64 d, .slice xa n xc] 24) = wb at *
      generalize wr.heap.size = p at *
      obtain ⟨b1, hb1⟩ : ∃ b1, b1 = validC d rs := ⟨_, rfl⟩
      rw [← hb1] at HV1 HV2
      have n1 : (b1 != b1) = false := by simp
      have e0 := HC.out.c0
      have e1 := HC.out.c1
      have HHD := Lib.hid (And.intro HC.out.rd HB.out)
      go_region_held3 (fun w' => w'.cell? ⟨p, 0, none⟩ = some (.int .i64 d) ∧ w'.cell? ⟨p, 1, none⟩ = some (.slice xa n xc) ∧ Below wb.heap.size wb w')
        (first | exact ⟨e0, e1, (Below.refl _ _).drew⟩ | exact s3KeepC (by assumption) hB3 | exact s3KeepC (by assumption) hB4)
        (first
        | (go_at_call 11; (with_reducible refine (HV1.out _ (HC.out.rd.via (And.right (And.right (by assumption))))).mono ?_); rintro e u3 ⟨rfl, hB3⟩)
        | (go_at_call 12; (with_reducible refine (HV2.out _ (HC.out.rd.via (And.right (And.right (by assumption))))).mono ?_); rintro e u4 ⟨rfl, hB4⟩))
      have HH : Hid (Below wb.heap.size wb u4) := And.right (And.right (by assumption))
      have HC := Lib.hid (HC.out.via HH.out)
      have HB := Lib.hid (belowVia HH.out HB.out)
      clear HH HHD
      go_wp2_with fail
      refine (HPL.out _).mono ?_
      rintro e w4' ⟨rfl, rfl⟩
      go_wp2_with fail
      have hB := alloc_below u4 (.cells #[.int .i64 local_, .int .i64 L5] 3)
      have HC := Lib.hid (HC.out.via hB)
      have HB := Lib.hid (belowVia hB HB.out)
      have HL1 : Hid (NumsIn (u4.alloc (.cells #[.int .i64 local_, .int .i64 L5] 3)) (some ⟨u4.heap.size, 0, none⟩) [local_, L5]) := nums_newM u4 [local_, L5] 3
      clear hB
      generalize u4.alloc (.cells #[.int .i64 local_, .int .i64 L5] 3) = wc at *
      generalize u4.heap.size = h1 at *
      refine (HPT.out _).mono ?_
      rintro e w5' ⟨rfl, rfl⟩
      go_wp2_with fail
      have hB := alloc_below wc (.cells #[.int .i64 t, .int .i64 T5] 3)
      have HC := Lib.hid (HC.out.via hB)
      have HB := Lib.hid (belowVia hB HB.out)
      have HL1 := Lib.hid (HL1.out.via hB)
      have HL2 : Hid (NumsIn (wc.alloc (.cells #[.int .i64 t, .int .i64 T5] 3)) (some ⟨wc.heap.size, 0, none⟩) [t, T5]) := nums_newM wc [t, T5] 3
      clear hB
      generalize wc.alloc (.cells #[.int .i64 t, .int .i64 T5] 3) = wd at *
      generalize wc.heap.size = h2 at *
      have HN : Hid (∀ k2 : Nat, k2 < 2 → ∃ xx yy : Int, wd.cell? ⟨h1, k2, none⟩ = some (.int .i64 xx) ∧ wd.cell? ⟨h2, k2, none⟩ = some (.int .i64 yy)) := by
        show ∀ k2 : Nat, k2 < 2 → _
        intro k2 hk2
        obtain ⟨g1, o1, e1, f1⟩ := HL1.out.get (k := k2) hk2
        obtain ⟨g2, o2, e2, f2⟩ := HL2.out.get (k := k2) hk2
        cases e1; cases e2
        rw [Nat.zero_add] at f1 f2
        exact ⟨_, _, f1, f2⟩
      clear HL1 HL2 hb1 e0 e1
      go_loopw [31] (fun i wx => ∃ k2 : Nat, k2 ≤ 2 ∧ i = .int .i64 k2 ∧ Below wd.heap.size wd wx) (fun i _ => 2 - (intOf i).toNat)
      case atStart => exact ⟨0, Nat.zero_le _, rfl, Below.refl _ _⟩
      case round =>
        obtain ⟨k2, hk2, rfl, hB⟩ := hrel
        have HX := Lib.hid hB
        clear hB
        by_cases hlt2 : k2 < 2
        · have hlt2' : (k2 : Int) < 2 := by omega
          obtain ⟨xx, yy, f0, f1⟩ := HN.out k2 hlt2
          replace f0 := keptBelow HX.out f0
          replace f1 := keptBelow HX.out f1
          have HCC := Lib.hid (HC.out.via HX.out)
          obtain ⟨a1, a2, a3, hA⟩ := HAT.out xx
          obtain ⟨r1, r2, r3, hR⟩ := HRE.out yy
          have HA := Lib.hid (hA (.slice xa n xc))
          have HR := Lib.hid (hR (.slice xa n xc))
          have HBX := Lib.hid (HB1.out xx yy)
          have HBY := Lib.hid (HB2.out xx yy)
          have HFX := Lib.hid (HF1.out xx yy)
          have HFY := Lib.hid (HF2.out xx yy)
          generalize beforeB d rs xx yy = bb at *
          generalize afterB d rs xx yy = bf at *
          clear hA hR
          have n1 : (a1 != a1) = false := by simp
          have n2 : (a2 != a2) = false := by simp
          have n3 : (a3 != a3) = false := by simp
          have n4 : (r1 != r1) = false := by simp
          have n5 : (r2 != r2) = false := by simp
          have n6 : (r3 != r3) = false := by simp
          have n7 : (bb != bb) = false := by simp
          have n8 : (bf != bf) = false := by simp
          have e0 := HCC.out.c0
          have e1 := HCC.out.c1
          go_upto_region 22 with fail
          go_region_held3 (fun w' => w'.cell? ⟨p, 0, none⟩ = some (.int .i64 d) ∧ w'.cell? ⟨p, 1, none⟩ = some (.slice xa n xc) ∧ w'.cell? ⟨h1, k2, none⟩ = some (.int .i64 xx) ∧ w'.cell? ⟨h2, k2, none⟩ = some (.int .i64 yy) ∧ Below wr.heap.size wr w')
            (first | exact ⟨e0, e1, f0, f1, (Below.refl _ _).drew⟩ | exact s5Keep (by assumption) hB3)
            ((go_at_call 14; (with_reducible refine ((HA.out _ (HCC.out.rd.via (And.right (And.right (And.right (And.right (by assumption)))))))).1.mono ?_); rintro e va ⟨rfl, hB3⟩))
          have HH : Hid (Below wr.heap.size wr va) := And.right (And.right (And.right (And.right (by assumption))))
          have HX := Lib.hid (belowVia HH.out HX.out)
          have HCC := Lib.hid (HCC.out.via HH.out)
          replace f0 := keptBelow HH.out f0
          replace f1 := keptBelow HH.out f1
          have e0 := HCC.out.c0
          have e1 := HCC.out.c1
          clear HH
          go_upto_region 23 with fail
          go_region_held3 (fun w' => w'.cell? ⟨p, 0, none⟩ = some (.int .i64 d) ∧ w'.cell? ⟨p, 1, none⟩ = some (.slice xa n xc) ∧ w'.cell? ⟨h1, k2, none⟩ = some (.int .i64 xx) ∧ w'.cell? ⟨h2, k2, none⟩ = some (.int .i64 yy) ∧ Below va.heap.size va w')
            (first | exact ⟨e0, e1, f0, f1, (Below.refl _ _).drew⟩ | exact s5Keep (by assumption) hB3)
            ((go_at_call 15; (with_reducible refine ((HA.out _ (HCC.out.rd.via (And.right (And.right (And.right (And.right (by assumption)))))))).2.mono ?_); rintro e vb ⟨rfl, hB3⟩))
          have HH : Hid (Below va.heap.size va vb) := And.right (And.right (And.right (And.right (by assumption))))
          have HX := Lib.hid (belowVia HH.out HX.out)
          have HCC := Lib.hid (HCC.out.via HH.out)
          replace f0 := keptBelow HH.out f0
          replace f1 := keptBelow HH.out f1
          have e0 := HCC.out.c0
          have e1 := HCC.out.c1
          clear HH
          go_upto_region 24 with fail
          go_region_held3 (fun w' => w'.cell? ⟨p, 0, none⟩ = some (.int .i64 d) ∧ w'.cell? ⟨p, 1, none⟩ = some (.slice xa n xc) ∧ w'.cell? ⟨h1, k2, none⟩ = some (.int .i64 xx) ∧ w'.cell? ⟨h2, k2, none⟩ = some (.int .i64 yy) ∧ Below vb.heap.size vb w')
            (first | exact ⟨e0, e1, f0, f1, (Below.refl _ _).drew⟩ | exact s5Keep (by assumption) hB3)
            ((go_at_call 16; (with_reducible refine ((HR.out _ (HCC.out.rd.via (And.right (And.right (And.right (And.right (by assumption)))))))).1.mono ?_); rintro e vc ⟨rfl, hB3⟩))
          have HH : Hid (Below vb.heap.size vb vc) := And.right (And.right (And.right (And.right (by assumption))))
          have HX := Lib.hid (belowVia HH.out HX.out)
          have HCC := Lib.hid (HCC.out.via HH.out)
          replace f0 := keptBelow HH.out f0
          replace f1 := keptBelow HH.out f1
          have e0 := HCC.out.c0
          have e1 := HCC.out.c1
          clear HH
          go_upto_region 25 with fail
          go_region_held3 (fun w' => w'.cell? ⟨p, 0, none⟩ = some (.int .i64 d) ∧ w'.cell? ⟨p, 1, none⟩ = some (.slice xa n xc) ∧ w'.cell? ⟨h1, k2, none⟩ = some (.int .i64 xx) ∧ w'.cell? ⟨h2, k2, none⟩ = some (.int .i64 yy) ∧ Below vc.heap.size vc w')
            (first | exact ⟨e0, e1, f0, f1, (Below.refl _ _).drew⟩ | exact s5Keep (by assumption) hB3)
            ((go_at_call 17; (with_reducible refine ((HR.out _ (HCC.out.rd.via (And.right (And.right (And.right (And.right (by assumption)))))))).2.mono ?_); rintro e vd ⟨rfl, hB3⟩))
          have HH : Hid (Below vc.heap.size vc vd) := And.right (And.right (And.right (And.right (by assumption))))
          have HX := Lib.hid (belowVia HH.out HX.out)
          have HCC := Lib.hid (HCC.out.via HH.out)
          replace f0 := keptBelow HH.out f0
          replace f1 := keptBelow HH.out f1
          have e0 := HCC.out.c0
          have e1 := HCC.out.c1
          clear HH
          go_upto_region 28 with fail
          go_region_held3 (fun w' => w'.cell? ⟨p, 0, none⟩ = some (.int .i64 d) ∧ w'.cell? ⟨p, 1, none⟩ = some (.slice xa n xc) ∧ w'.cell? ⟨h1, k2, none⟩ = some (.int .i64 xx) ∧ w'.cell? ⟨h2, k2, none⟩ = some (.int .i64 yy) ∧ Below vd.heap.size vd w')
            (first | exact ⟨e0, e1, f0, f1, (Below.refl _ _).drew⟩ | exact s5Keep (by assumption) hB3 | exact s5Keep (by assumption) hB4 | exact s5Keep (by assumption) hB5 | exact s5Keep (by assumption) hB6)
            (first
            | (go_at_call 18; (with_reducible refine ((HBX.out _ (HCC.out.rd.via (And.right (And.right (And.right (And.right (by assumption)))))))).mono ?_); rintro e y3 ⟨rfl, hB3⟩)
            | (go_at_call 19; (with_reducible refine ((HBY.out _ (HCC.out.rd.via (And.right (And.right (And.right (And.right (by assumption)))))))).mono ?_); rintro e y4 ⟨rfl, hB4⟩)
            | (go_at_call 20; (with_reducible refine ((HFX.out _ (HCC.out.rd.via (And.right (And.right (And.right (And.right (by assumption)))))))).mono ?_); rintro e y5 ⟨rfl, hB5⟩)
            | (go_at_call 21; (with_reducible refine ((HFY.out _ (HCC.out.rd.via (And.right (And.right (And.right (And.right (by assumption)))))))).mono ?_); rintro e y6 ⟨rfl, hB6⟩))
          have HH : Hid (Below vd.heap.size vd y6) := And.right (And.right (And.right (And.right (by assumption))))
          have HX := Lib.hid (belowVia HH.out HX.out)
          clear HH
          go_wp2_with fail
          go_roundw
          case rel => exact ⟨k2 + 1, by omega, by go_num, HX.out⟩
          case measure => simp [intOf]; omega
        · obtain rfl : k2 = 2 := by omega
          go_wp2_with fail
          go_roundw
          case rel => exact ⟨k + 1, by omega, by go_num, belowVia HX.out HB.out⟩
          case measure => simp [intOf]; omega
    · obtain rfl : k = 2 := by omega
      go_wp2_with fail
      go_ret
      exact ⟨rfl, belowVia HB.out HW.out⟩
end Go.Proofs.Ytiakjaglnjecgaa
