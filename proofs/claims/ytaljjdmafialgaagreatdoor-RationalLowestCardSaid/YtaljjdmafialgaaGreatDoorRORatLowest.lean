/- RationalLowest: what the law's body answers. -/
import Derived.Test.YtaljjdmafialgaaGreatDoorRO1
namespace Go.Proofs.YtaljjdmafialgaaGreatDoor
open Go.RowKit Putlog

theorem s9Keep {v w w1 : World} {a b c d : Nat} {x1 x2 x3 x4 x5 x6 x7 x8 : Value} (h : w.cell? ⟨a, 0, none⟩ = some x1 ∧ w.cell? ⟨a, 1, none⟩ = some x2 ∧ w.cell? ⟨b, 0, none⟩ = some x3 ∧ w.cell? ⟨b, 1, none⟩ = some x4 ∧ w.cell? ⟨c, 0, none⟩ = some x5 ∧ w.cell? ⟨c, 1, none⟩ = some x6 ∧ w.cell? ⟨d, 0, none⟩ = some x7 ∧ w.cell? ⟨d, 1, none⟩ = some x8 ∧ Below v.heap.size v w) (hB : Below w.heap.size w w1) :
    w1.cell? ⟨a, 0, none⟩ = some x1 ∧ w1.cell? ⟨a, 1, none⟩ = some x2 ∧ w1.cell? ⟨b, 0, none⟩ = some x3 ∧ w1.cell? ⟨b, 1, none⟩ = some x4 ∧ w1.cell? ⟨c, 0, none⟩ = some x5 ∧ w1.cell? ⟨c, 1, none⟩ = some x6 ∧ w1.cell? ⟨d, 0, none⟩ = some x7 ∧ w1.cell? ⟨d, 1, none⟩ = some x8 ∧ Below v.heap.size v w1 := by
  obtain ⟨h1, h2, h3, h4, h5, h6, h7, h8, h9⟩ := h
  exact ⟨keptBelow hB h1, keptBelow hB h2, keptBelow hB h3, keptBelow hB h4, keptBelow hB h5, keptBelow hB h6, keptBelow hB h7, keptBelow hB h8, belowVia hB h9⟩
set_option maxRecDepth 100000 in
set_option maxHeartbeats 8000000 in
theorem Lowest_calls (x0 x1 x2 x3 factor : Int) (sign : Bool) (W : World) (h0 : I64 x0) (h1 : I64 x1) (h2 : I64 x2) (h3 : I64 x3) (hf0 : -9223372036854775808 ≤ factor) (hf1 : factor ≤ 9223372036854775807) (hT : TabP W) :
    Calls Tryz.prog 9 #[.agg #[.int .i64 x0, .int .i64 x1, .int .i64 x2, .int .i64 x3], .int .i64 factor, .bool sign] W fun e w' => e = .returned (.bool true) ∧ Below W.heap.size W w' := by
  have HL := Lib.hid (fun W => long_q x0 x1 x2 x3 h0 h1 h2 h3 W)
  have HP := Lib.hid (fun W => pick_q factor 1000000 hf0 hf1 (by decide) (by decide) W)
  obtain ⟨p1, p2⟩ := pickN_bounds factor (n := 1000000) (by decide)
  generalize pickN factor 1000000 = pk at *
  obtain ⟨kk, hkk⟩ : ∃ a, a = 1 + pk := ⟨_, rfl⟩
  obtain ⟨kn, hkn⟩ : ∃ a, a = -kk := ⟨_, rfl⟩
  have w1 : IntKind.i64.wrap (1 + pk) = kk := by rw [IntKind.wrap_i64]; omega
  have w2 : IntKind.i64.wrap (-kk) = kn := by rw [IntKind.wrap_i64]; omega
  obtain ⟨k, hk⟩ : ∃ a, a = if sign then kn else kk := ⟨_, rfl⟩
  have HK : Hid (k ≠ 0 ∧ k.natAbs ≤ 1000000) := by
    rw [hk]; show _ ∧ _
    split <;> omega
  have HKS := Lib.hid hk
  have HFR : Hid (∀ w, Calls Tryz.prog 43 #[.int .i64 k] w fun e w' => e = .returned (.string (intB k)) ∧ Below w.heap.size w w') := fun w => rfrom_any k (by have := HK.out.2; omega) (by have := HK.out.2; omega) w
  have HXA := alloc_below W (.cells #[.int .i64 x0, .int .i64 x1, .int .i64 x2, .int .i64 x3] 24)
  have HX := heap_alloc_new W (.cells #[.int .i64 x0, .int .i64 x1, .int .i64 x2, .int .i64 x3] 24)
  have HS := Lib.hid (sane_q _ (hT.via HXA))
  have HW := Lib.hid HXA
  have HXX := Lib.hid HX
  clear h0 h1 h2 h3 hf0 hf1 hT p1 p2 hkk hkn hk HXA HX
  cases sign with
  | true =>
    obtain rfl : k = kn := by have := HKS.out; simpa using this
    go_enter Tryz.func9, Tryz.ntmps9
    go_wp2_with fail
    refine HS.out.mono ?_
    rintro e v1 ⟨rfl, hB⟩
    have HXX := Lib.hid (heap_below hB HXX.out)
    have HW := Lib.hid (belowVia hB HW.out)
    clear hB HS
    have g0 := (cell_of_row v1 _ 0 _ _ _ HXX.out).trans (by rfl : _ = some (.int .i64 x0))
    have g1 := (cell_of_row v1 _ 1 _ _ _ HXX.out).trans (by rfl : _ = some (.int .i64 x1))
    have g2 := (cell_of_row v1 _ 2 _ _ _ HXX.out).trans (by rfl : _ = some (.int .i64 x2))
    have g3 := (cell_of_row v1 _ 3 _ _ _ HXX.out).trans (by rfl : _ = some (.int .i64 x3))
    go_wp2_with fail
    clear g0 g1 g2 g3 HXX
    refine (HL.out _).mono ?_
    rintro e v2 ⟨⟨q, rfl, hq⟩, hB⟩
    have HW := Lib.hid (belowVia hB HW.out)
    have HF := Lib.hid (low_facts hq HK.out.1 HK.out.2)
    clear hB hq HL
    generalize intB q.num = nu at *
    generalize intB q.den = de at *
    generalize intB (q.num * k) = n at *
    generalize intB (q.den * k) = d at *
    generalize printQ (some q) = pt at *
    generalize intB k = kb at *
    clear q
    go_wp2_with fail
    have BR := Lib.hid (BoxQ.new v2 nu de)
    have HW := Lib.hid (belowVia (alloc_below v2 (.cells #[.string nu, .string de] 23)) HW.out)
    generalize v2.alloc (.cells #[.string nu, .string de] 23) = v3 at *
    generalize v2.heap.size = pr at *
    refine (HP.out v3).mono ?_
    rintro e v4 ⟨rfl, rfl⟩
    go_wp2_with fail
    refine (HFR.out v4).mono ?_
    rintro e v5 ⟨rfl, hB⟩
    have HW := Lib.hid (belowVia hB HW.out)
    have BR := Lib.hid (BR.out.via hB)
    clear hB
    obtain ⟨b0, b1⟩ := BR.out
    go_wp2_with fail
    clear b0 b1
    refine (HF.out.mn v5).mono ?_
    rintro e v6 ⟨rfl, hB⟩
    have HW := Lib.hid (belowVia hB HW.out)
    have BR := Lib.hid (BR.out.via hB)
    clear hB
    obtain ⟨b0, b1⟩ := BR.out
    go_wp2_with fail
    clear b0 b1
    refine (HF.out.md v6).mono ?_
    rintro e v7 ⟨rfl, hB⟩
    have HW := Lib.hid (belowVia hB HW.out)
    have BR := Lib.hid (BR.out.via hB)
    clear hB
    go_wp2_with fail
    refine (HF.out.a v7).mono ?_
    rintro e v8 ⟨rfl, hB⟩
    have HW := Lib.hid (belowVia (alloc_below v8 (.cells #[.string nu, .string de] 23)) (belowVia hB HW.out))
    have BR := Lib.hid ((BR.out.via hB).via (alloc_below v8 (.cells #[.string nu, .string de] 23)))
    have BA := Lib.hid (BoxQ.new v8 nu de)
    clear hB
    obtain ⟨b0, b1⟩ := BR.out
    go_wp2_with fail
    clear b0 b1
    generalize v8.alloc (.cells #[.string nu, .string de] 23) = v9 at *
    generalize v8.heap.size = pa at *
    refine (HF.out.b v9).mono ?_
    rintro e v10 ⟨rfl, hB⟩
    have HW := Lib.hid (belowVia (alloc_below v10 (.cells #[.string nu, .string de] 23)) (belowVia hB HW.out))
    have BR := Lib.hid ((BR.out.via hB).via (alloc_below v10 (.cells #[.string nu, .string de] 23)))
    have BA := Lib.hid ((BA.out.via hB).via (alloc_below v10 (.cells #[.string nu, .string de] 23)))
    have BB := Lib.hid (BoxQ.new v10 nu de)
    clear hB
    go_wp2_with fail
    generalize v10.alloc (.cells #[.string nu, .string de] 23) = v11 at *
    generalize v10.heap.size = pb at *
    refine (HF.out.z v11).mono ?_
    rintro e v12 ⟨rfl, hB⟩
    have HW := Lib.hid (belowVia (alloc_below v12 (.cells #[.string ⟨#[48]⟩, .string ⟨#[49]⟩] 23)) (belowVia hB HW.out))
    have BR := Lib.hid ((BR.out.via hB).via (alloc_below v12 (.cells #[.string ⟨#[48]⟩, .string ⟨#[49]⟩] 23)))
    have BA := Lib.hid ((BA.out.via hB).via (alloc_below v12 (.cells #[.string ⟨#[48]⟩, .string ⟨#[49]⟩] 23)))
    have BB := Lib.hid ((BB.out.via hB).via (alloc_below v12 (.cells #[.string ⟨#[48]⟩, .string ⟨#[49]⟩] 23)))
    have BZ := Lib.hid (BoxQ.new v12 ⟨#[48]⟩ ⟨#[49]⟩)
    clear hB
    go_wp2_with fail
    generalize v12.alloc (.cells #[.string ⟨#[48]⟩, .string ⟨#[49]⟩] 23) = v13 at *
    generalize v12.heap.size = pz at *
    obtain ⟨r0, r1⟩ := BR.out
    obtain ⟨a0, a1⟩ := BA.out
    obtain ⟨b0, b1⟩ := BB.out
    obtain ⟨z0, z1⟩ := BZ.out
    have HV := Lib.hid HF.out.v
    have HC := Lib.hid HF.out.c
    have HT := Lib.hid HF.out.p
    clear HF BR BA BB BZ HFR HK HKS
    go_region_held3 (fun w' => w'.cell? ⟨pr, 0, none⟩ = some (.string nu) ∧ w'.cell? ⟨pr, 1, none⟩ = some (.string de) ∧ w'.cell? ⟨pa, 0, none⟩ = some (.string nu) ∧ w'.cell? ⟨pa, 1, none⟩ = some (.string de) ∧ w'.cell? ⟨pb, 0, none⟩ = some (.string nu) ∧ w'.cell? ⟨pb, 1, none⟩ = some (.string de) ∧ w'.cell? ⟨pz, 0, none⟩ = some (.string ⟨#[48]⟩) ∧ w'.cell? ⟨pz, 1, none⟩ = some (.string ⟨#[49]⟩) ∧ Below v13.heap.size v13 w')
      (first | exact ⟨r0, r1, a0, a1, b0, b1, z0, z1, (Below.refl _ _).drew⟩ | exact s9Keep (by assumption) hB3) (first
      | (go_at_call 29; (with_reducible refine (HV.out _).mono ?_); rintro e u3 ⟨rfl, hB3⟩)
      | (go_at_call 20; (with_reducible refine (HC.out _).mono ?_); rintro e u3 ⟨rfl, hB3⟩)
      | (go_at_call 41; (with_reducible refine (is_q _ _ _).mono ?_); rintro e u3 ⟨rfl, hB3⟩)
      | (go_at_call 33; (with_reducible refine (HT.out _).mono ?_); rintro e u3 ⟨rfl, hB3⟩))
    all_goals
      have HH : Hid (Below v13.heap.size v13 _) := And.right (And.right (And.right (And.right (And.right (And.right (And.right (And.right (by assumption))))))))
      go_wp2_with fail
      go_ret
      exact ⟨rfl, belowVia HH.out HW.out⟩
  | false =>
    obtain rfl : k = kk := by have := HKS.out; simpa using this
    go_enter Tryz.func9, Tryz.ntmps9
    go_wp2_with fail
    refine HS.out.mono ?_
    rintro e v1 ⟨rfl, hB⟩
    have HXX := Lib.hid (heap_below hB HXX.out)
    have HW := Lib.hid (belowVia hB HW.out)
    clear hB HS
    have g0 := (cell_of_row v1 _ 0 _ _ _ HXX.out).trans (by rfl : _ = some (.int .i64 x0))
    have g1 := (cell_of_row v1 _ 1 _ _ _ HXX.out).trans (by rfl : _ = some (.int .i64 x1))
    have g2 := (cell_of_row v1 _ 2 _ _ _ HXX.out).trans (by rfl : _ = some (.int .i64 x2))
    have g3 := (cell_of_row v1 _ 3 _ _ _ HXX.out).trans (by rfl : _ = some (.int .i64 x3))
    go_wp2_with fail
    clear g0 g1 g2 g3 HXX
    refine (HL.out _).mono ?_
    rintro e v2 ⟨⟨q, rfl, hq⟩, hB⟩
    have HW := Lib.hid (belowVia hB HW.out)
    have HF := Lib.hid (low_facts hq HK.out.1 HK.out.2)
    clear hB hq HL
    generalize intB q.num = nu at *
    generalize intB q.den = de at *
    generalize intB (q.num * k) = n at *
    generalize intB (q.den * k) = d at *
    generalize printQ (some q) = pt at *
    generalize intB k = kb at *
    clear q
    go_wp2_with fail
    have BR := Lib.hid (BoxQ.new v2 nu de)
    have HW := Lib.hid (belowVia (alloc_below v2 (.cells #[.string nu, .string de] 23)) HW.out)
    generalize v2.alloc (.cells #[.string nu, .string de] 23) = v3 at *
    generalize v2.heap.size = pr at *
    refine (HP.out v3).mono ?_
    rintro e v4 ⟨rfl, rfl⟩
    go_wp2_with fail
    refine (HFR.out v4).mono ?_
    rintro e v5 ⟨rfl, hB⟩
    have HW := Lib.hid (belowVia hB HW.out)
    have BR := Lib.hid (BR.out.via hB)
    clear hB
    obtain ⟨b0, b1⟩ := BR.out
    go_wp2_with fail
    clear b0 b1
    refine (HF.out.mn v5).mono ?_
    rintro e v6 ⟨rfl, hB⟩
    have HW := Lib.hid (belowVia hB HW.out)
    have BR := Lib.hid (BR.out.via hB)
    clear hB
    obtain ⟨b0, b1⟩ := BR.out
    go_wp2_with fail
    clear b0 b1
    refine (HF.out.md v6).mono ?_
    rintro e v7 ⟨rfl, hB⟩
    have HW := Lib.hid (belowVia hB HW.out)
    have BR := Lib.hid (BR.out.via hB)
    clear hB
    go_wp2_with fail
    refine (HF.out.a v7).mono ?_
    rintro e v8 ⟨rfl, hB⟩
    have HW := Lib.hid (belowVia (alloc_below v8 (.cells #[.string nu, .string de] 23)) (belowVia hB HW.out))
    have BR := Lib.hid ((BR.out.via hB).via (alloc_below v8 (.cells #[.string nu, .string de] 23)))
    have BA := Lib.hid (BoxQ.new v8 nu de)
    clear hB
    obtain ⟨b0, b1⟩ := BR.out
    go_wp2_with fail
    clear b0 b1
    generalize v8.alloc (.cells #[.string nu, .string de] 23) = v9 at *
    generalize v8.heap.size = pa at *
    refine (HF.out.b v9).mono ?_
    rintro e v10 ⟨rfl, hB⟩
    have HW := Lib.hid (belowVia (alloc_below v10 (.cells #[.string nu, .string de] 23)) (belowVia hB HW.out))
    have BR := Lib.hid ((BR.out.via hB).via (alloc_below v10 (.cells #[.string nu, .string de] 23)))
    have BA := Lib.hid ((BA.out.via hB).via (alloc_below v10 (.cells #[.string nu, .string de] 23)))
    have BB := Lib.hid (BoxQ.new v10 nu de)
    clear hB
    go_wp2_with fail
    generalize v10.alloc (.cells #[.string nu, .string de] 23) = v11 at *
    generalize v10.heap.size = pb at *
    refine (HF.out.z v11).mono ?_
    rintro e v12 ⟨rfl, hB⟩
    have HW := Lib.hid (belowVia (alloc_below v12 (.cells #[.string ⟨#[48]⟩, .string ⟨#[49]⟩] 23)) (belowVia hB HW.out))
    have BR := Lib.hid ((BR.out.via hB).via (alloc_below v12 (.cells #[.string ⟨#[48]⟩, .string ⟨#[49]⟩] 23)))
    have BA := Lib.hid ((BA.out.via hB).via (alloc_below v12 (.cells #[.string ⟨#[48]⟩, .string ⟨#[49]⟩] 23)))
    have BB := Lib.hid ((BB.out.via hB).via (alloc_below v12 (.cells #[.string ⟨#[48]⟩, .string ⟨#[49]⟩] 23)))
    have BZ := Lib.hid (BoxQ.new v12 ⟨#[48]⟩ ⟨#[49]⟩)
    clear hB
    go_wp2_with fail
    generalize v12.alloc (.cells #[.string ⟨#[48]⟩, .string ⟨#[49]⟩] 23) = v13 at *
    generalize v12.heap.size = pz at *
    obtain ⟨r0, r1⟩ := BR.out
    obtain ⟨a0, a1⟩ := BA.out
    obtain ⟨b0, b1⟩ := BB.out
    obtain ⟨z0, z1⟩ := BZ.out
    have HV := Lib.hid HF.out.v
    have HC := Lib.hid HF.out.c
    have HT := Lib.hid HF.out.p
    clear HF BR BA BB BZ HFR HK HKS
    go_region_held3 (fun w' => w'.cell? ⟨pr, 0, none⟩ = some (.string nu) ∧ w'.cell? ⟨pr, 1, none⟩ = some (.string de) ∧ w'.cell? ⟨pa, 0, none⟩ = some (.string nu) ∧ w'.cell? ⟨pa, 1, none⟩ = some (.string de) ∧ w'.cell? ⟨pb, 0, none⟩ = some (.string nu) ∧ w'.cell? ⟨pb, 1, none⟩ = some (.string de) ∧ w'.cell? ⟨pz, 0, none⟩ = some (.string ⟨#[48]⟩) ∧ w'.cell? ⟨pz, 1, none⟩ = some (.string ⟨#[49]⟩) ∧ Below v13.heap.size v13 w')
      (first | exact ⟨r0, r1, a0, a1, b0, b1, z0, z1, (Below.refl _ _).drew⟩ | exact s9Keep (by assumption) hB3) (first
      | (go_at_call 29; (with_reducible refine (HV.out _).mono ?_); rintro e u3 ⟨rfl, hB3⟩)
      | (go_at_call 20; (with_reducible refine (HC.out _).mono ?_); rintro e u3 ⟨rfl, hB3⟩)
      | (go_at_call 41; (with_reducible refine (is_q _ _ _).mono ?_); rintro e u3 ⟨rfl, hB3⟩)
      | (go_at_call 33; (with_reducible refine (HT.out _).mono ?_); rintro e u3 ⟨rfl, hB3⟩))
    all_goals
      have HH : Hid (Below v13.heap.size v13 _) := And.right (And.right (And.right (And.right (And.right (And.right (And.right (And.right (by assumption))))))))
      go_wp2_with fail
      go_ret
      exact ⟨rfl, belowVia HH.out HW.out⟩
end Go.Proofs.YtaljjdmafialgaaGreatDoor
