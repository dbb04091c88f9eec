/- The contracts of the exported functions. -/
import Derived.Test.YtggkbeppfpgkaaaGreatDoorIntComb
namespace Go.Proofs.YtggkbeppfpgkaaaGreatDoor
open Go.RowKit Putlog

theorem add_lt120 {x y : Int} (hx : x.natAbs < 10000 ^ 120) (hy : y.natAbs < 10000 ^ 120) : (x + y).natAbs < 10000 ^ 250 :=
  Nat.lt_of_lt_of_le (show _ < 10000 ^ 121 by rw [Nat.pow_succ]; omega) (Nat.pow_le_pow_right (by decide) (by decide))
theorem sub_lt120 {x y : Int} (hx : x.natAbs < 10000 ^ 120) (hy : y.natAbs < 10000 ^ 120) : (x - y).natAbs < 10000 ^ 250 :=
  Nat.lt_of_lt_of_le (show _ < 10000 ^ 121 by rw [Nat.pow_succ]; omega) (Nat.pow_le_pow_right (by decide) (by decide))
theorem mul_lt120 {x y : Int} (hx : x.natAbs < 10000 ^ 120) (hy : y.natAbs < 10000 ^ 120) : (x * y).natAbs < 10000 ^ 250 := by rw [Int.natAbs_mul]; exact prod_lt hx hy
theorem gcd_fits {x y : Int} (hx : Fits x) (hy : Fits y) : Fits (Int.gcd x y : Nat) := by
  show (Nat.gcd x.natAbs y.natAbs : Int).natAbs < 10 ^ 200
  rw [Int.natAbs_natCast]
  rcases Nat.eq_zero_or_pos x.natAbs with h | h
  · rw [h, Nat.gcd_zero_left]; exact hy
  · exact Nat.lt_of_le_of_lt (Nat.le_of_dvd h (Nat.gcd_dvd_left _ _)) hx
theorem add_ok (x y : Int) (hx : Fits x) (hy : Fits y) (w : World) : Calls Tryz.prog 7 #[.string (intB x), .string (intB y)] w (GivesInt (okS (x + y)) (okE (x + y)) w) :=
  add_any _ _ _ _ w (comb_ok (enters_of Tryz.func29 (by kernel_rfl) rfl) x y (x + y) hx hy (add_lt120 (fits120 hx) (fits120 hy)) (fun u v W hu hv => nplus x y (fits120 hx) (fits120 hy) u v W hu hv) w)
theorem sub_ok (x y : Int) (hx : Fits x) (hy : Fits y) (w : World) : Calls Tryz.prog 9 #[.string (intB x), .string (intB y)] w (GivesInt (okS (x - y)) (okE (x - y)) w) :=
  sub_any _ _ _ _ w (comb_ok (enters_of Tryz.func32 (by kernel_rfl) rfl) x y (x - y) hx hy (sub_lt120 (fits120 hx) (fits120 hy)) (fun u v W hu hv => nminus x y (fits120 hx) (fits120 hy) u v W hu hv) w)
theorem mul_ok (x y : Int) (hx : Fits x) (hy : Fits y) (w : World) : Calls Tryz.prog 11 #[.string (intB x), .string (intB y)] w (GivesInt (okS (x * y)) (okE (x * y)) w) :=
  mul_any _ _ _ _ w (comb_ok (enters_of Tryz.func33 (by kernel_rfl) rfl) x y (x * y) hx hy (mul_lt120 (fits120 hx) (fits120 hy)) (fun u v W hu hv => ntimes x y (fits120 hx) (fits120 hy) u v W hu hv) w)
theorem gcd_ok (x y : Int) (hx : Fits x) (hy : Fits y) (w : World) : Calls Tryz.prog 15 #[.string (intB x), .string (intB y)] w (GivesInt (intB (Int.gcd x y : Nat)) 0 w) := by
  have h := comb_ok (enters_of Tryz.func43 (by kernel_rfl) rfl) x y (Int.gcd x y : Nat) hx hy (fits250 (gcd_fits hx hy)) (fun u v W hu hv => gcd1_any x y (fits250 hx) (fits250 hy) u v W hu hv) w
  rw [okS_fits (gcd_fits hx hy), okE_fits (gcd_fits hx hy)] at h
  exact gcd_call _ _ _ _ w h
set_option maxRecDepth 100000 in
set_option maxHeartbeats 4000000 in
theorem cmp_ok (x y : Int) (hx : Fits x) (hy : Fits y) (w : World) : Calls Tryz.prog 23 #[.string (intB x), .string (intB y)] w fun e w' => e = .returned (.int .i64 (cmpI x y)) ∧ Below w.heap.size w w' := by
  have HB := Lib.hid (both_ok x y hx hy)
  have HC := Lib.hid (fun u v W hu hv => ncmp x y (fits250 hx) (fits250 hy) u v W hu hv)
  generalize intB x = s at *
  generalize intB y = t at *
  generalize cmpI x y = r at *
  clear hx hy
  go_enter Tryz.func23, Tryz.ntmps23
  go_wp2_with fail
  refine (HB.out w).mono ?_
  rintro e w1 ⟨⟨u, v, rfl, hu, hv⟩, hB1⟩
  have HU := Lib.hid hu
  have HVV := Lib.hid hv
  obtain ⟨a, ca, rfl, _, _⟩ := hu
  obtain ⟨b, cb, rfl, _, _⟩ := hv
  generalize (digsL 10000 x.natAbs).length = n at *
  generalize (digsL 10000 y.natAbs).length = m at *
  generalize decide (x < 0) = sx at *
  generalize decide (y < 0) = sy at *
  obtain ⟨hb, hc1, hc2⟩ := boxes_made (w := w1) (x1 := .bool sx) (x2 := .slice a n ca) (y1 := .bool sy) (y2 := .slice b m cb)
  obtain ⟨k1, k2, _, _⟩ := heap_cells hc1
  obtain ⟨k3, k4, _, _⟩ := heap_cells hc2
  have HU2 := Lib.hid (HU.out.via hb)
  have HV2 := Lib.hid (HVV.out.via hb)
  have HB2 := Lib.hid (belowVia hb hB1)
  clear hb hc1 hc2 HU HVV hB1
  go_wp2_with fail
  refine (HC.out _ _ _ HU2.out HV2.out).mono ?_
  rintro e w2 ⟨rfl, hB3⟩
  go_wp2_with fail
  go_ret
  exact ⟨rfl, belowVia hB3 HB2.out⟩
set_option maxRecDepth 100000 in
set_option maxHeartbeats 4000000 in
theorem cmp_no (s t : ByteArray) (w : World) (h : Calls Tryz.prog 36 #[.string s, .string t] w fun e w' => e = .returned (.tuple #[.agg #[.bool false, .slice none 0 0], .agg #[.bool false, .slice none 0 0], .bool false]) ∧ Below w.heap.size w w') :
    Calls Tryz.prog 23 #[.string s, .string t] w fun e w' => e = .returned (.int .i64 0) ∧ Below w.heap.size w w' := by
  have HB := Lib.hid h
  clear h
  go_enter Tryz.func23, Tryz.ntmps23
  go_wp2_with fail
  refine HB.out.mono ?_
  rintro e w1 ⟨rfl, hB1⟩
  go_wp2_with fail
  go_ret
  exact ⟨rfl, belowVia ((alloc_below _ _).alloc (by simp) _) hB1⟩
set_option maxRecDepth 100000 in
set_option maxHeartbeats 4000000 in
theorem div_no (s t : ByteArray) (w : World) (h : Calls Tryz.prog 36 #[.string s, .string t] w fun e w' => e = .returned (.tuple #[.agg #[.bool false, .slice none 0 0], .agg #[.bool false, .slice none 0 0], .bool false]) ∧ Below w.heap.size w w') :
    Calls Tryz.prog 13 #[.string s, .string t] w fun e w' => e = .returned (.tuple #[.string ⟨#[]⟩, .string ⟨#[]⟩, .int .i64 30]) ∧ Below w.heap.size w w' := by
  have HB := Lib.hid h
  clear h
  go_enter Tryz.func13, Tryz.ntmps13
  go_wp2_with fail
  refine HB.out.mono ?_
  rintro e w1 ⟨rfl, hB1⟩
  obtain ⟨hb, hc1, hc2⟩ := boxes_made (w := w1) (x1 := .bool false) (x2 := .slice none 0 0) (y1 := .bool false) (y2 := .slice none 0 0)
  obtain ⟨k1, k2, _, _⟩ := heap_cells hc1
  obtain ⟨k3, k4, _, _⟩ := heap_cells hc2
  clear hb hc1 hc2
  go_wp2_with fail
  go_ret3
  exact ⟨rfl, belowVia ((alloc_below _ _).alloc (by simp) _) hB1⟩
set_option maxRecDepth 100000 in
set_option maxHeartbeats 4000000 in
theorem div_zero (x : Int) (hx : Fits x) (w : World) :
    Calls Tryz.prog 13 #[.string (intB x), .string (intB 0)] w fun e w' => e = .returned (.tuple #[.string ⟨#[]⟩, .string ⟨#[]⟩, .int .i64 30]) ∧ Below w.heap.size w w' := by
  have h0 : Fits 0 := by show (0 : Int).natAbs < 10 ^ 200; exact Nat.pow_pos (by decide)
  have HB := Lib.hid (both_ok x 0 hx h0)
  have HZ := Lib.hid (fun v W hv => nzero 0 (fits250 h0) v W hv)
  rw [show decide ((0 : Int) = 0) = true from rfl] at HZ
  generalize intB x = s at *
  generalize intB 0 = t at *
  obtain ⟨y, hy⟩ : ∃ y : Int, y = 0 := ⟨_, rfl⟩
  rw [← hy] at HB HZ
  clear hx h0 hy
  go_enter Tryz.func13, Tryz.ntmps13
  go_wp2_with fail
  refine (HB.out w).mono ?_
  rintro e w1 ⟨⟨u, v, rfl, hu, hv⟩, hB1⟩
  have HVV := Lib.hid hv
  obtain ⟨a, ca, rfl, _, _⟩ := hu
  obtain ⟨b, cb, rfl, _, _⟩ := hv
  generalize (digsL 10000 x.natAbs).length = n at *
  generalize (digsL 10000 y.natAbs).length = m at *
  generalize decide (x < 0) = sx at *
  generalize decide (y < 0) = sy at *
  obtain ⟨hb, hc1, hc2⟩ := boxes_made (w := w1) (x1 := .bool sx) (x2 := .slice a n ca) (y1 := .bool sy) (y2 := .slice b m cb)
  obtain ⟨k1, k2, _, _⟩ := heap_cells hc1
  obtain ⟨k3, k4, _, _⟩ := heap_cells hc2
  have HV2 := Lib.hid (HVV.out.via hb)
  have HB2 := Lib.hid (belowVia hb hB1)
  clear hb hc1 hc2 HVV hB1
  go_wp2_with fail
  refine (HZ.out _ _ HV2.out).mono ?_
  rintro e w2 ⟨rfl, hB3⟩
  go_wp2_with fail
  go_ret3
  exact ⟨rfl, belowVia hB3 HB2.out⟩
set_option maxRecDepth 100000 in
set_option maxHeartbeats 4000000 in
theorem div_ok (x y : Int) (hx : Fits x) (hy : Fits y) (h0 : y ≠ 0) (w : World) :
    Calls Tryz.prog 13 #[.string (intB x), .string (intB y)] w fun e w' => e = .returned (.tuple #[.string (intB (x / y)), .string (intB (x % y)), .int .i64 0]) ∧ Below w.heap.size w w' := by
  have HB := Lib.hid (both_ok x y hx hy)
  have HZ := Lib.hid (fun v W hv => nzero y (fits250 hy) v W hv)
  rw [show decide (y = 0) = false by simp [h0]] at HZ
  have HD := Lib.hid (fun u v W hu hv => ndiv x y (fits120 hx) (fits120 hy) h0 u v W hu hv)
  obtain ⟨e1, e2, e3⟩ := ediv_spec x y h0
  have hrb : (x % y).natAbs < 10000 ^ 250 := by have := fits250 hy; omega
  have hqb : (x / y).natAbs < 10000 ^ 250 := Nat.lt_of_le_of_lt (Int.natAbs_ediv_le_natAbs x y) (fits250 hx)
  have HQ := Lib.hid (fun v W hv => ntext (x / y) hqb v W hv)
  have HR := Lib.hid (fun v W hv => ntext (x % y) hrb v W hv)
  generalize intB (x / y) = qs at *
  generalize intB (x % y) = rs at *
  generalize intB x = s at *
  generalize intB y = t at *
  generalize x / y = q at *
  generalize x % y = r at *
  clear hx hy h0 e1 e2 e3 hrb hqb
  go_enter Tryz.func13, Tryz.ntmps13
  go_wp2_with fail
  refine (HB.out w).mono ?_
  rintro e w1 ⟨⟨u, v, rfl, hu, hv⟩, hB1⟩
  have HU := Lib.hid hu
  have HVV := Lib.hid hv
  obtain ⟨a, ca, rfl, _, _⟩ := hu
  obtain ⟨b, cb, rfl, _, _⟩ := hv
  generalize (digsL 10000 x.natAbs).length = n at *
  generalize (digsL 10000 y.natAbs).length = m at *
  generalize decide (x < 0) = sx at *
  generalize decide (y < 0) = sy at *
  obtain ⟨hb, hc1, hc2⟩ := boxes_made (w := w1) (x1 := .bool sx) (x2 := .slice a n ca) (y1 := .bool sy) (y2 := .slice b m cb)
  have HC1 := Lib.hid hc1
  have HC2 := Lib.hid hc2
  obtain ⟨k1, k2, _, _⟩ := heap_cells hc1
  obtain ⟨k3, k4, _, _⟩ := heap_cells hc2
  have HU2 := Lib.hid (HU.out.via hb)
  have HV2 := Lib.hid (HVV.out.via hb)
  have HB2 := Lib.hid (belowVia hb hB1)
  clear hb hc1 hc2 HU HVV hB1
  go_wp2_with fail
  refine (HZ.out _ _ HV2.out).mono ?_
  rintro e w2 ⟨rfl, hB3⟩
  obtain ⟨k1', k2', _, _⟩ := heap_cells (heap_below hB3 HC1.out)
  obtain ⟨k3', k4', _, _⟩ := heap_cells (heap_below hB3 HC2.out)
  have HU3 := Lib.hid (HU2.out.via hB3)
  have HV3 := Lib.hid (HV2.out.via hB3)
  have HB3 := Lib.hid (belowVia hB3 HB2.out)
  clear hB3 k1 k2 k3 k4 HC1 HC2 HU2 HV2
  go_wp2_with fail
  refine (HD.out _ _ _ HU3.out HV3.out).mono ?_
  rintro e w3 ⟨⟨qv, rv, rfl, hq, hr⟩, hB4⟩
  have HQ4 := Lib.hid hq
  have HR4 := Lib.hid hr
  obtain ⟨a, ca, rfl, _, _⟩ := hq
  obtain ⟨b, cb, rfl, _, _⟩ := hr
  generalize (digsL 10000 q.natAbs).length = n2 at *
  generalize (digsL 10000 r.natAbs).length = m2 at *
  generalize decide (q < 0) = sq at *
  generalize decide (r < 0) = sr at *
  obtain ⟨hb, hc1, hc2⟩ := boxes_made (w := w3) (x1 := .bool sq) (x2 := .slice a n2 ca) (y1 := .bool sr) (y2 := .slice b m2 cb)
  obtain ⟨j1, j2, _, _⟩ := heap_cells hc1
  obtain ⟨j3, j4, _, _⟩ := heap_cells hc2
  have HQ5 := Lib.hid (HQ4.out.via hb)
  have HR5 := Lib.hid (HR4.out.via hb)
  have HB5 := Lib.hid (belowVia hb (belowVia hB4 HB3.out))
  clear hb hc1 hc2 HQ4 HR4 hB4 k1' k2' k3' k4' HU3 HV3
  go_wp2_with fail
  generalize World.alloc (World.alloc _ _) _ = w5 at *
  go_region_held3 (fun w' => w'.cell? ⟨w3.heap.size, 0, none⟩ = some (.bool sq) ∧ w'.cell? ⟨w3.heap.size, 1, none⟩ = some (.slice a n2 ca) ∧ w'.cell? ⟨w3.heap.size + 1, 0, none⟩ = some (.bool sr) ∧ w'.cell? ⟨w3.heap.size + 1, 1, none⟩ = some (.slice b m2 cb)) (first | exact ⟨j1, j2, j3, j4⟩ | exact ⟨keptBelow hC1 j1, keptBelow hC1 j2, keptBelow hC1 j3, keptBelow hC1 j4⟩ | exact ⟨keptBelow hC2 (keptBelow hC1 j1), keptBelow hC2 (keptBelow hC1 j2), keptBelow hC2 (keptBelow hC1 j3), keptBelow hC2 (keptBelow hC1 j4)⟩) (first
    | (go_at_call 39; (with_reducible refine (HQ.out _ _ ?_).mono ?_); exact NumAt.via (Below.refl _ _).drew HQ5.out; rintro e w6 ⟨rfl, hC1⟩)
    | (go_at_call 39; (with_reducible refine (HR.out _ _ ?_).mono ?_); exact NumAt.via hC1 (NumAt.via (Below.refl _ _).drew HR5.out); rintro e w7 ⟨rfl, hC2⟩))
  go_wp2_with fail
  go_ret3
  exact ⟨rfl, belowVia hC2 (belowVia (undrew hC1) HB5.out)⟩
end Go.Proofs.YtggkbeppfpgkaaaGreatDoor
