/- The contract of the laws' sane. -/
import Derived.Test.YtdhpighnkoamiaaDoorDigSane
namespace Go.Proofs.YtdhpighnkoamiaaDoor
open Go.RowKit Putlog

theorem getB_size (xs : List ByteArray) (h : ∀ x ∈ xs, x.size ≤ 140737488355327) (j : Nat) : (getB xs j).size ≤ 140737488355327 := by
  simp only [getB, List.getD_eq_getElem?_getD]
  cases e : xs[j]? with
  | none => simp
  | some x => exact h x (List.mem_of_getElem? e)
theorem abc_size (j : Nat) : (abc j).size ≤ 140737488355327 := getB_size _ (by decide) j

set_option maxRecDepth 100000 in
set_option maxHeartbeats 4000000 in
theorem sane_any (w : World) (hT : TabAt w) : Calls Tryd.prog 12 #[] w fun e w' => e = .returned (.bool true) ∧ Below w.heap.size w w' := by
  have hA := ArrAt.new w #[.string sA, .string sB, .string sC] 9
  have hB0 : Below w.heap.size w (w.alloc (.cells #[.string sA, .string sB, .string sC] 9)) := (Below.refl _ _).alloc (Nat.le_refl _) _
  have hT0 := hT.below hB0 hT.size
  have hS0 : SliceAt (w.alloc (.cells #[.string sA, .string sB, .string sC] 9)) (some ⟨w.heap.size, 0, none⟩) abc 3 := fun _ => ⟨w.heap.size, 0, rfl, fun j hj => by
    match j, hj with
    | 0, _ | 1, _ | 2, _ => exact hA.cell rfl⟩
  generalize hw0 : w.alloc (.cells #[.string sA, .string sB, .string sC] 9) = w0 at *
  have HW0 := Lib.hid hw0
  have HB0 := Lib.hid hB0
  have HT0 := Lib.hid hT0
  have HS0 := Lib.hid hS0
  clear hA hB0 hT0 hS0 hT hw0
  go_enter Tryd.func12, Tryd.ntmps12
  go_wp2_with fail
  rw [show (⟨#[97]⟩ : ByteArray) = sA from rfl, show (⟨#[98]⟩ : ByteArray) = sB from rfl, show (⟨#[99]⟩ : ByteArray) = sC from rfl, HW0.out]
  have hP : Calls Tryd.prog 22 #[.slice (some ⟨w.heap.size, 0, none⟩) 3 3, .int .i64 2] w0 fun e w' => ∃ a c, e = .returned (.tuple #[.slice a 1 c, .int .i64 0]) ∧ 1 ≤ c ∧ SliceAt w' a (getB [rootS abc 0 2]) 1 ∧ Below w0.heap.size w0 w' := by
    have := Proof_ok abc abc_size 3 3 (some ⟨w.heap.size, 0, none⟩) 2 w0 (by omega) (by omega) (by omega) (by omega) HS0.out HT0.out
    rw [prf2] at this
    exact this.mono fun e w' ⟨v, he, a, c, hv, h1, h2, h3, h4⟩ => ⟨a, c, by rw [he, hv]; rfl, h1, h3, h4⟩
  refine hP.mono ?_
  rintro e w1 ⟨ap, cp, rfl, hcp, hsp, hB⟩
  have HB1 := Lib.hid (HB0.out.trans (hB.mono HB0.out.size))
  have HT1 := Lib.hid (HT0.out.below hB HT0.out.size)
  have HSa1 := Lib.hid (HS0.out.below hB)
  have HSp1 := Lib.hid hsp
  clear hP hB hsp HB0 HT0 HS0
  go_wp2_with fail
  have hX : Calls Tryd.prog 24 #[.slice (some ⟨w.heap.size, 0, none⟩) 3 3, .int .i64 1] w1 fun e w' => ∃ a c, e = .returned (.tuple #[.slice a 2 c, .int .i64 0]) ∧ 2 ≤ c ∧ SliceAt w' a (getB [leafB sB, leafB sC]) 2 ∧ Below w1.heap.size w1 w' := by
    have := Extension_ok abc abc_size 3 3 (some ⟨w.heap.size, 0, none⟩) 1 w1 (by omega) (by omega) (by omega) (by omega) HSa1.out HT1.out
    rw [ext1] at this
    exact this.mono fun e w' ⟨v, he, a, c, hv, h1, h2, h3, h4⟩ => ⟨a, c, by rw [he, hv]; rfl, h1, h3, h4⟩
  refine hX.mono ?_
  rintro e w2 ⟨ax, cx, rfl, hcx, hsx, hB⟩
  have HB2 := Lib.hid (HB1.out.trans (hB.mono HB1.out.size))
  have HT2 := Lib.hid (HT1.out.below hB HT1.out.size)
  have HSa2 := Lib.hid (HSa1.out.below hB)
  have HSp2 := Lib.hid (HSp1.out.below hB)
  have HSx2 := Lib.hid hsx
  clear hX hB hsx HB1 HT1 HSa1 HSp1
  go_wp2_with fail
  refine (Proof_no 3 3 _ 3 w2 (by omega) (by omega)).mono ?_
  rintro e w' ⟨rfl, rfl⟩
  go_wp2_with fail
  refine (Root_sl abc abc_size 3 3 _ w2 (by omega) (by omega) (by omega) HSa2.out HT2.out).mono ?_
  rintro e w3 ⟨rfl, hB⟩
  have HB3 := Lib.hid (HB2.out.trans (hB.mono HB2.out.size))
  have HT3 := Lib.hid (HT2.out.below hB HT2.out.size)
  have HSa3 := Lib.hid (HSa2.out.below hB)
  have HSp3 := Lib.hid (HSp2.out.below hB)
  have HSx3 := Lib.hid (HSx2.out.below hB)
  clear hB HB2 HT2 HSa2 HSp2 HSx2
  have hr32 := rootS_size abc 0 3
  generalize hrt : rootS abc 0 3 = rt at *
  have HR := Lib.hid hr32
  have HRT := Lib.hid hrt
  clear hr32 hrt
  go_wp2_with fail
  refine (Sum_any ⟨#[]⟩ w3 (by decide) HT3.out).mono ?_
  rintro e w4 ⟨rfl, hB⟩
  have HB4 := Lib.hid (HB3.out.trans (hB.mono HB3.out.size))
  have HT4 := Lib.hid (HT3.out.below hB HT3.out.size)
  have HSa4 := Lib.hid (HSa3.out.below hB)
  have HSp4 := Lib.hid (HSp3.out.below hB)
  have HSx4 := Lib.hid (HSx3.out.below hB)
  clear hB HB3 HT3 HSa3 HSp3 HSx3
  go_wp2_with fail
  refine (hex_any (shaB ⟨#[]⟩) w4 (by rw [shaB_size]; omega)).mono ?_
  rintro e w5 ⟨rfl, hB⟩
  have HB5 := Lib.hid (HB4.out.trans (hB.mono HB4.out.size))
  have HT5 := Lib.hid (HT4.out.below hB HT4.out.size)
  have HSa5 := Lib.hid (HSa4.out.below hB)
  have HSp5 := Lib.hid (HSp4.out.below hB)
  have HSx5 := Lib.hid (HSx4.out.below hB)
  clear hB HB4 HT4 HSa4 HSp4 HSx4
  have hx1 := hex_empty
  rw [show (ByteArray.empty : ByteArray) = ⟨#[]⟩ from rfl] at hx1
  generalize hexS (shaB ⟨#[]⟩).data.toList = z1 at *
  go_wp2_with fail
  refine (Sum_any ⟨#[97, 98, 99]⟩ w5 (by decide) HT5.out).mono ?_
  rintro e w6 ⟨rfl, hB⟩
  have HB6 := Lib.hid (HB5.out.trans (hB.mono HB5.out.size))
  have HT6 := Lib.hid (HT5.out.below hB HT5.out.size)
  have HSa6 := Lib.hid (HSa5.out.below hB)
  have HSp6 := Lib.hid (HSp5.out.below hB)
  have HSx6 := Lib.hid (HSx5.out.below hB)
  clear hB HB5 HT5 HSa5 HSp5 HSx5
  go_wp2_with fail
  refine (hex_any (shaB ⟨#[97, 98, 99]⟩) w6 (by rw [shaB_size]; omega)).mono ?_
  rintro e w7 ⟨rfl, hB⟩
  have HB7 := Lib.hid (HB6.out.trans (hB.mono HB6.out.size))
  have HT7 := Lib.hid (HT6.out.below hB HT6.out.size)
  have HSa7 := Lib.hid (HSa6.out.below hB)
  have HSp7 := Lib.hid (HSp6.out.below hB)
  have HSx7 := Lib.hid (HSx6.out.below hB)
  clear hB HB6 HT6 HSa6 HSp6 HSx6
  have hx2 := hex_abc
  generalize hexS (shaB ⟨#[97, 98, 99]⟩).data.toList = z2 at *
  go_wp2_with fail
  have HV1 := Lib.hid (Verify_any (getB [rootS abc 0 2]) (getB_size _ (fun x hx => by simp at hx; subst hx; rw [rootS_size]; omega)) rt ⟨#[99]⟩ (by decide) 3 2 1 cp ap w7 (by omega) hcp (by omega) HSp7.out HT7.out)
  rw [show verB (getB [rootS abc 0 2]) rt ⟨#[99]⟩ 3 2 1 = true by rw [← HRT.out]; exact ver_c] at HV1
  refine HV1.out.mono ?_
  rintro e w8 ⟨rfl, hB⟩
  have HB8 := Lib.hid (HB7.out.trans (hB.mono HB7.out.size))
  have HT8 := Lib.hid (HT7.out.below hB HT7.out.size)
  have HSa8 := Lib.hid (HSa7.out.below hB)
  have HSp8 := Lib.hid (HSp7.out.below hB)
  have HSx8 := Lib.hid (HSx7.out.below hB)
  clear hB HB7 HT7 HSa7 HSp7 HSx7
  go_wp2_with fail
  have HV2 := Lib.hid (Verify_any (getB [rootS abc 0 2]) (getB_size _ (fun x hx => by simp at hx; subst hx; rw [rootS_size]; omega)) rt ⟨#[100]⟩ (by decide) 3 2 1 cp ap w8 (by omega) hcp (by omega) HSp8.out HT8.out)
  rw [show verB (getB [rootS abc 0 2]) rt ⟨#[100]⟩ 3 2 1 = false by rw [← HRT.out]; exact ver_d] at HV2
  refine HV2.out.mono ?_
  rintro e w9 ⟨rfl, hB⟩
  have HB9 := Lib.hid (HB8.out.trans (hB.mono HB8.out.size))
  have HT9 := Lib.hid (HT8.out.below hB HT8.out.size)
  have HSa9 := Lib.hid (HSa8.out.below hB)
  have HSp9 := Lib.hid (HSp8.out.below hB)
  have HSx9 := Lib.hid (HSx8.out.below hB)
  clear hB HB8 HT8 HSa8 HSp8 HSx8
  go_wp2_with fail
  refine (Root_sl abc abc_size 1 3 (some ⟨w.heap.size, 0, none⟩) w9 (by omega) (by omega) (by omega) (fun _ => (HSa9.out (by omega)).imp fun b ⟨o, h1, h2⟩ => ⟨o, h1, fun j hj => h2 j (by omega)⟩) HT9.out).mono ?_
  rintro e w10 ⟨rfl, hB⟩
  have HB10 := Lib.hid (HB9.out.trans (hB.mono HB9.out.size))
  have HT10 := Lib.hid (HT9.out.below hB HT9.out.size)
  have HSa10 := Lib.hid (HSa9.out.below hB)
  have HSp10 := Lib.hid (HSp9.out.below hB)
  have HSx10 := Lib.hid (HSx9.out.below hB)
  clear hB HB9 HT9 HSa9 HSp9 HSx9
  have hr1 := rootS_size abc 0 1
  generalize hq1 : rootS abc 0 1 = q1 at *
  have HQ1 := Lib.hid hq1
  clear hq1 hr1
  go_wp2_with fail
  have hm2 : ∀ x ∈ [leafB sB, leafB sC], x.size ≤ 140737488355327 := by
    intro x hx
    simp at hx
    rcases hx with rfl | rfl
    · have : (leafB sB).size = 32 := shaB_size _
      omega
    · have : (leafB sC).size = 32 := shaB_size _
      omega
  have HV3 := Lib.hid (VerifyExtension_any (getB [leafB sB, leafB sC]) (getB_size _ hm2) q1 rt 1 3 2 cx ax w10 (by omega) hcx (by omega) HSx10.out HT10.out)
  rw [show extB (getB [leafB sB, leafB sC]) q1 rt 1 3 2 = true by rw [← HRT.out, ← HQ1.out]; exact ext_a] at HV3
  have HM2 := Lib.hid hm2
  clear hm2
  refine HV3.out.mono ?_
  rintro e w11 ⟨rfl, hB⟩
  have HB11 := Lib.hid (HB10.out.trans (hB.mono HB10.out.size))
  have HT11 := Lib.hid (HT10.out.below hB HT10.out.size)
  have HSa11 := Lib.hid (HSa10.out.below hB)
  have HSp11 := Lib.hid (HSp10.out.below hB)
  have HSx11 := Lib.hid (HSx10.out.below hB)
  clear hB HB10 HT10 HSa10 HSp10 HSx10
  go_wp2_with fail
  refine (Root_sl abc abc_size 2 3 (some ⟨w.heap.size, 0, none⟩) w11 (by omega) (by omega) (by omega) (fun _ => (HSa11.out (by omega)).imp fun b ⟨o, h1, h2⟩ => ⟨o, h1, fun j hj => h2 j (by omega)⟩) HT11.out).mono ?_
  rintro e w12 ⟨rfl, hB⟩
  have HB12 := Lib.hid (HB11.out.trans (hB.mono HB11.out.size))
  have HT12 := Lib.hid (HT11.out.below hB HT11.out.size)
  have HSa12 := Lib.hid (HSa11.out.below hB)
  have HSp12 := Lib.hid (HSp11.out.below hB)
  have HSx12 := Lib.hid (HSx11.out.below hB)
  clear hB HB11 HT11 HSa11 HSp11 HSx11
  generalize hq2 : rootS abc 0 2 = q2 at *
  have HQ2 := Lib.hid hq2
  clear hq2
  go_wp2_with fail
  have HV4 := Lib.hid (VerifyExtension_any (getB [leafB sB, leafB sC]) (getB_size _ HM2.out) q2 rt 1 3 2 cx ax w12 (by omega) hcx (by omega) HSx12.out HT12.out)
  rw [show extB (getB [leafB sB, leafB sC]) q2 rt 1 3 2 = false by rw [← HRT.out, ← HQ2.out]; exact ext_b] at HV4
  refine HV4.out.mono ?_
  rintro e w13 ⟨rfl, hB⟩
  have HB13 := Lib.hid (HB12.out.trans (hB.mono HB12.out.size))
  have HT13 := Lib.hid (HT12.out.below hB HT12.out.size)
  have HSa13 := Lib.hid (HSa12.out.below hB)
  have HSp13 := Lib.hid (HSp12.out.below hB)
  have HSx13 := Lib.hid (HSx12.out.below hB)
  clear hB HB12 HT12 HSa12 HSp12 HSx12
  go_wp2_with fail
  go_ret
  exact ⟨rfl, HB13.out⟩
end Go.Proofs.YtdhpighnkoamiaaDoor
