/- Several texts of layers 3 and 4, one behind the other: IntComb, IntExp, RatPure, RatCmp, RatGrid, RatFrac, RatStr, RatStep, RatValid, RatPos, RatBuilt, RatFin, RatOpsP. -/
import Derived.Test.YtelckldddflmmaaGreatDoorRM2
/- IntComb: The contract of combined, and of the functions that call it. -/
namespace Go.Proofs.YtelckldddflmmaaGreatDoor
open Go.RowKit Putlog

theorem intB_small {z : Int} (h : z.natAbs < 10000 ^ 250) : (intB z).size ≤ 4 * 250 + 1 := intT_size (by rw [show (10000 : Nat) = 10 ^ 4 from rfl, ← Nat.pow_mul] at h; exact h) (by decide)
theorem validB (z : Int) (h : z.natAbs < 10000 ^ 250) (W : World) : Calls Tryz.prog 108 #[.string (intB z)] W fun e w' => e = .returned (.bool (decide (Fits z))) ∧ w' = W := by
  have h1 := intB_small h
  have h2 := valid_any (intB z) (by omega) W
  have h3 : validT (intB z).data.toList = decide (Fits z) := by
    rw [intB_list]
    by_cases hf : Fits z
    · rw [(validT_int z).2 hf]; simp [hf]
    · have : validT (intT z) = false := by rw [Bool.eq_false_iff]; exact fun k => hf ((validT_int z).1 k)
      rw [this]; simp [hf]
  rwa [h3] at h2
/-- The boxes of two numbers, and what is read of them. -/
theorem boxes_made {w : World} {x1 x2 y1 y2 : Value} : Below w.heap.size w ((w.alloc (.cells #[x1, x2] 82)).alloc (.cells #[y1, y2] 82)) ∧
    ((w.alloc (.cells #[x1, x2] 82)).alloc (.cells #[y1, y2] 82)).heap[w.heap.size]? = some (.cells #[x1, x2] 82 (0, 0)) ∧
    ((w.alloc (.cells #[x1, x2] 82)).alloc (.cells #[y1, y2] 82)).heap[w.heap.size + 1]? = some (.cells #[y1, y2] 82 (0, 0)) := by
  have h1 := heap_alloc_new w (.cells #[x1, x2] 82)
  have b1 := alloc_below w (.cells #[x1, x2] 82)
  have s1 := alloc_size w (.cells #[x1, x2] 82)
  generalize w.alloc (.cells #[x1, x2] 82) = w1 at *
  have h2 := heap_alloc_new w1 (.cells #[y1, y2] 82)
  rw [s1] at h2
  exact ⟨belowVia (alloc_below _ _) b1, heap_below (alloc_below _ _) h1, h2⟩
set_option maxRecDepth 100000 in
set_option maxHeartbeats 4000000 in
theorem comb_ok {g : Nat} (eg : ∀ args w, (callFunc g args).run Tryz.prog w = .ok (.enter g args) w) (x y z : Int) (hx : Fits x) (hy : Fits y) (hz : z.natAbs < 10000 ^ 250)
    (hop : ∀ u v W, NumAt W u x → NumAt W v y → Calls Tryz.prog g #[u, v] W fun e w' => (∃ r, e = .returned r ∧ NumAt w' r z) ∧ Below W.heap.size W w') (w : World) :
    Calls Tryz.prog 81 #[.string (intB x), .string (intB y), .func (.func g) #[] #[]] w (GivesInt (okS z) (okE z) w) := by
  have HB := Lib.hid (both_ok x y hx hy)
  have HT := Lib.hid (fun v W hv => ntext z hz v W hv)
  have HV := Lib.hid (validB z hz)
  have HO := Lib.hid hop
  generalize intB x = s at *
  generalize intB y = t at *
  have hOK : okS z = if Fits z then intB z else ⟨#[]⟩ := rfl
  have hOE : okE z = if Fits z then 0 else 30 := rfl
  generalize intB z = r at *
  clear hx hy hz hop
  by_cases hf : Fits z
  · have hd : decide (Fits z) = true := by simp [hf]
    rw [hd] at HV
    rw [if_pos hf] at hOK hOE
    rw [hOK, hOE]
    clear hOK hOE hd hf
    go_enter Tryz.func81, Tryz.ntmps81
    go_wp2_with fail
    refine (HB.out w).mono ?_
    rintro e w1 ⟨⟨u, v, rfl, hu, hv⟩, hB1⟩
    have HU := Lib.hid hu
    have HVV := Lib.hid hv
    obtain ⟨a, ca, rfl, _, _⟩ := hu
    obtain ⟨b, cb, rfl, _, _⟩ := hv
    generalize (digsL 10000 x.natAbs).length = n at *
    generalize (digsL 10000 y.natAbs).length = m at *
    generalize decide (x < 0) = sx at *
    generalize decide (y < 0) = sy at *
    obtain ⟨hb, hc1, hc2⟩ := boxes_made (w := w1) (x1 := .bool sx) (x2 := .slice a n ca) (y1 := .bool sy) (y2 := .slice b m cb)
    obtain ⟨k1, k2, _, _⟩ := heap_cells hc1
    obtain ⟨k3, k4, _, _⟩ := heap_cells hc2
    have HU2 := Lib.hid (HU.out.via hb)
    have HV2 := Lib.hid (HVV.out.via hb)
    have HB2 := Lib.hid (belowVia hb hB1)
    clear hb hc1 hc2 HU HVV hB1
    go_wp2_with fail
    refine (HO.out _ _ _ HU2.out HV2.out).mono ?_
    rintro e w2 ⟨⟨rr, rfl, hn⟩, hB3⟩
    have HB3 := Lib.hid (belowVia hB3 HB2.out)
    clear hB3
    go_wp2_with fail
    refine (HT.out _ _ hn).mono ?_
    rintro e w3 ⟨rfl, hB4⟩
    go_wp2_with fail
    refine (HV.out w3).mono ?_
    rintro e w4 ⟨rfl, rfl⟩
    go_wp2_with fail
    go_ret2
    exact ⟨rfl, belowVia hB4 HB3.out⟩
  · have hd : decide (Fits z) = false := by simp [hf]
    rw [hd] at HV
    rw [if_neg hf] at hOK hOE
    rw [hOK, hOE]
    clear hOK hOE hd hf
    go_enter Tryz.func81, Tryz.ntmps81
    go_wp2_with fail
    refine (HB.out w).mono ?_
    rintro e w1 ⟨⟨u, v, rfl, hu, hv⟩, hB1⟩
    have HU := Lib.hid hu
    have HVV := Lib.hid hv
    obtain ⟨a, ca, rfl, _, _⟩ := hu
    obtain ⟨b, cb, rfl, _, _⟩ := hv
    generalize (digsL 10000 x.natAbs).length = n at *
    generalize (digsL 10000 y.natAbs).length = m at *
    generalize decide (x < 0) = sx at *
    generalize decide (y < 0) = sy at *
    obtain ⟨hb, hc1, hc2⟩ := boxes_made (w := w1) (x1 := .bool sx) (x2 := .slice a n ca) (y1 := .bool sy) (y2 := .slice b m cb)
    obtain ⟨k1, k2, _, _⟩ := heap_cells hc1
    obtain ⟨k3, k4, _, _⟩ := heap_cells hc2
    have HU2 := Lib.hid (HU.out.via hb)
    have HV2 := Lib.hid (HVV.out.via hb)
    have HB2 := Lib.hid (belowVia hb hB1)
    clear hb hc1 hc2 HU HVV hB1
    go_wp2_with fail
    refine (HO.out _ _ _ HU2.out HV2.out).mono ?_
    rintro e w2 ⟨⟨rr, rfl, hn⟩, hB3⟩
    have HB3 := Lib.hid (belowVia hB3 HB2.out)
    clear hB3
    go_wp2_with fail
    refine (HT.out _ _ hn).mono ?_
    rintro e w3 ⟨rfl, hB4⟩
    go_wp2_with fail
    refine (HV.out w3).mono ?_
    rintro e w4 ⟨rfl, rfl⟩
    go_wp2_with fail
    go_ret2
    exact ⟨rfl, belowVia hB4 HB3.out⟩
set_option maxRecDepth 100000 in
set_option maxHeartbeats 4000000 in
theorem comb_no (s t : ByteArray) (f : Value) (w : World) (h : Calls Tryz.prog 68 #[.string s, .string t] w fun e w' => e = .returned (.tuple #[.agg #[.bool false, .slice none 0 0], .agg #[.bool false, .slice none 0 0], .bool false]) ∧ Below w.heap.size w w') :
    Calls Tryz.prog 81 #[.string s, .string t, f] w (GivesInt ⟨#[]⟩ 30 w) := by
  have HB := Lib.hid h
  clear h
  go_enter Tryz.func81, Tryz.ntmps81
  go_wp2_with fail
  refine HB.out.mono ?_
  rintro e w1 ⟨rfl, hB1⟩
  go_wp2_with fail
  go_ret2
  exact ⟨rfl, belowVia ((alloc_below _ _).alloc (by simp) _) hB1⟩
/-- What two texts are: two integers, or one of them is none. -/
theorem both_cases (s t : ByteArray) (hs : (s.size : Int) ≤ 9223372036854775807) (ht : (t.size : Int) ≤ 9223372036854775807) :
    (∃ x y, s = intB x ∧ t = intB y ∧ Fits x ∧ Fits y) ∨ (validT s.data.toList && validT t.data.toList) = false ∧ ∀ w, Calls Tryz.prog 68 #[.string s, .string t] w fun e w' => e = .returned (.tuple #[.agg #[.bool false, .slice none 0 0], .agg #[.bool false, .slice none 0 0], .bool false]) ∧ Below w.heap.size w w' := by
  have hback : ∀ s : ByteArray, validT s.data.toList = true → ∃ x, s = intB x ∧ Fits x := fun s h => by
    obtain ⟨x, h1, h2⟩ := validT_some h
    exact ⟨x, by show s = ⟨(intT x).toArray⟩; rw [← h1], h2⟩
  by_cases h1 : validT s.data.toList = true
  · obtain ⟨x, rfl, hx⟩ := hback s h1
    by_cases h2 : validT t.data.toList = true
    · obtain ⟨y, rfl, hy⟩ := hback t h2
      exact .inl ⟨x, y, rfl, rfl, hx, hy⟩
    · have h2 := Bool.eq_false_iff.2 h2
      exact .inr ⟨by rw [h2, Bool.and_false], fun w => both_no2 x t hx ht h2 w⟩
  · have h1 := Bool.eq_false_iff.2 h1
    exact .inr ⟨by rw [h1, Bool.false_and], fun w => both_no1 s t hs h1 w⟩
set_option maxRecDepth 100000 in
set_option maxHeartbeats 4000000 in
theorem add_any (s t x : ByteArray) (k : Int) (w : World) (h : Calls Tryz.prog 81 #[.string s, .string t, .func (.func 82) #[] #[]] w (GivesInt x k w)) :
    Calls Tryz.prog 51 #[.string s, .string t] w (GivesInt x k w) := by
  have H := Lib.hid h
  clear h
  go_enter Tryz.func51, Tryz.ntmps51
  go_wp2_with fail
  refine H.out.mono ?_
  rintro e w1 ⟨rfl, hB1⟩
  go_wp2_with fail
  go_ret2
  exact ⟨rfl, hB1⟩
set_option maxRecDepth 100000 in
set_option maxHeartbeats 4000000 in
theorem sub_any (s t x : ByteArray) (k : Int) (w : World) (h : Calls Tryz.prog 81 #[.string s, .string t, .func (.func 94) #[] #[]] w (GivesInt x k w)) :
    Calls Tryz.prog 63 #[.string s, .string t] w (GivesInt x k w) := by
  have H := Lib.hid h
  clear h
  go_enter Tryz.func63, Tryz.ntmps63
  go_wp2_with fail
  refine H.out.mono ?_
  rintro e w1 ⟨rfl, hB1⟩
  go_wp2_with fail
  go_ret2
  exact ⟨rfl, hB1⟩
set_option maxRecDepth 100000 in
set_option maxHeartbeats 4000000 in
theorem mul_any (s t x : ByteArray) (k : Int) (w : World) (h : Calls Tryz.prog 81 #[.string s, .string t, .func (.func 93) #[] #[]] w (GivesInt x k w)) :
    Calls Tryz.prog 62 #[.string s, .string t] w (GivesInt x k w) := by
  have H := Lib.hid h
  clear h
  go_enter Tryz.func62, Tryz.ntmps62
  go_wp2_with fail
  refine H.out.mono ?_
  rintro e w1 ⟨rfl, hB1⟩
  go_wp2_with fail
  go_ret2
  exact ⟨rfl, hB1⟩
set_option maxRecDepth 100000 in
set_option maxHeartbeats 4000000 in
theorem gcd_call (s t x : ByteArray) (k : Int) (w : World) (h : Calls Tryz.prog 81 #[.string s, .string t, .func (.func 86) #[] #[]] w (GivesInt x k w)) :
    Calls Tryz.prog 55 #[.string s, .string t] w (GivesInt x k w) := by
  have H := Lib.hid h
  clear h
  go_enter Tryz.func55, Tryz.ntmps55
  go_wp2_with fail
  refine H.out.mono ?_
  rintro e w1 ⟨rfl, hB1⟩
  go_wp2_with fail
  go_ret2
  exact ⟨rfl, hB1⟩
set_option maxRecDepth 100000 in
set_option maxHeartbeats 4000000 in
theorem gcd1_any (x y : Int) (hx : x.natAbs < 10000 ^ 250) (hy : y.natAbs < 10000 ^ 250) (u v : Value) (w : World) (hu : NumAt w u x) (hv : NumAt w v y) :
    Calls Tryz.prog 86 #[u, v] w fun e w' => (∃ r, e = .returned r ∧ NumAt w' r (Int.gcd x y : Nat)) ∧ Below w.heap.size w w' := by
  obtain ⟨a, ca, rfl, hra, hca⟩ := hu
  obtain ⟨b, cb, rfl, hrb, hcb⟩ := hv
  have hgb : Nat.gcd x.natAbs y.natAbs < 10000 ^ 250 := by
    rcases Nat.eq_zero_or_pos x.natAbs with h | h
    · rw [h, Nat.gcd_zero_left]; exact hy
    · exact Nat.lt_of_le_of_lt (Nat.le_of_dvd h (Nat.gcd_dvd_left _ _)) hx
  have HP := Lib.hid (fun W hu hv => gcd_any x.natAbs y.natAbs hx hy _ _ W (MagAt.via hu (mag_of_num hra hca)) (MagAt.via hv (mag_of_num hrb hcb)))
  have HS := Lib.hid (fun sv W hm => signed_any false (Nat.gcd x.natAbs y.natAbs) sv W hgb hm)
  have hz : sgn false (Nat.gcd x.natAbs y.natAbs) = (Int.gcd x y : Nat) := rfl
  obtain ⟨z, hzz⟩ : ∃ z : Int, z = (Int.gcd x y : Nat) := ⟨_, rfl⟩
  rw [hz, ← hzz] at HS
  rw [← hzz]
  generalize (digsL 10000 x.natAbs).length = n at *
  generalize (digsL 10000 y.natAbs).length = m at *
  generalize decide (x < 0) = sx at *
  generalize decide (y < 0) = sy at *
  clear hx hy hgb hz hzz
  go_enter Tryz.func86, Tryz.ntmps86
  go_wp2_with fail
  have hbx := box3_made w (.bool sx) (.slice a n ca) (.bool sy) (.slice b m cb)
  generalize World.alloc (World.alloc _ _) _ = W at hbx ⊢
  refine (HP.out W hbx.bel hbx.bel).mono ?_
  rintro e w1 ⟨⟨r1, rfl, hm1⟩, hB1⟩
  have hbx := hbx.via hB1
  go_wp2_with fail
  refine (HS.out _ _ hm1).mono ?_
  rintro e w2 ⟨⟨r2, rfl, hn2⟩, hB2⟩
  obtain ⟨a9, c9, rfl, hr9, hc9⟩ := hn2
  have hbx2 := hbx.via hB2
  obtain ⟨hq1, hq2, hf1, hf2⟩ := heap_cells hbx2.r
  clear hbx hB1 hB2
  go_wp2_with fail
  refine bodyPost_ret (results_n rfl _ _ (w.heap.size + 1 + 1) _ _ rfl hbx2.res) rfl ?_
  exact ⟨⟨_, rfl, a9, c9, rfl, hr9, cells_res hc9 hbx2.r⟩, below_res hbx2.bel (by omega) _ _⟩
end Go.Proofs.YtelckldddflmmaaGreatDoor
/- IntExp: The contracts of the exported functions. -/
namespace Go.Proofs.YtelckldddflmmaaGreatDoor
open Go.RowKit Putlog

theorem add_lt120 {x y : Int} (hx : x.natAbs < 10000 ^ 120) (hy : y.natAbs < 10000 ^ 120) : (x + y).natAbs < 10000 ^ 250 :=
  Nat.lt_of_lt_of_le (show _ < 10000 ^ 121 by rw [Nat.pow_succ]; omega) (Nat.pow_le_pow_right (by decide) (by decide))
theorem sub_lt120 {x y : Int} (hx : x.natAbs < 10000 ^ 120) (hy : y.natAbs < 10000 ^ 120) : (x - y).natAbs < 10000 ^ 250 :=
  Nat.lt_of_lt_of_le (show _ < 10000 ^ 121 by rw [Nat.pow_succ]; omega) (Nat.pow_le_pow_right (by decide) (by decide))
theorem mul_lt120 {x y : Int} (hx : x.natAbs < 10000 ^ 120) (hy : y.natAbs < 10000 ^ 120) : (x * y).natAbs < 10000 ^ 250 := by rw [Int.natAbs_mul]; exact prod_lt hx hy
theorem gcd_fits {x y : Int} (hx : Fits x) (hy : Fits y) : Fits (Int.gcd x y : Nat) := by
  show (Nat.gcd x.natAbs y.natAbs : Int).natAbs < 10 ^ 200
  rw [Int.natAbs_natCast]
  rcases Nat.eq_zero_or_pos x.natAbs with h | h
  · rw [h, Nat.gcd_zero_left]; exact hy
  · exact Nat.lt_of_le_of_lt (Nat.le_of_dvd h (Nat.gcd_dvd_left _ _)) hx
theorem add_ok (x y : Int) (hx : Fits x) (hy : Fits y) (w : World) : Calls Tryz.prog 51 #[.string (intB x), .string (intB y)] w (GivesInt (okS (x + y)) (okE (x + y)) w) :=
  add_any _ _ _ _ w (comb_ok (enters_of Tryz.func82 (by kernel_rfl) rfl) x y (x + y) hx hy (add_lt120 (fits120 hx) (fits120 hy)) (fun u v W hu hv => nplus x y (fits120 hx) (fits120 hy) u v W hu hv) w)
theorem sub_ok (x y : Int) (hx : Fits x) (hy : Fits y) (w : World) : Calls Tryz.prog 63 #[.string (intB x), .string (intB y)] w (GivesInt (okS (x - y)) (okE (x - y)) w) :=
  sub_any _ _ _ _ w (comb_ok (enters_of Tryz.func94 (by kernel_rfl) rfl) x y (x - y) hx hy (sub_lt120 (fits120 hx) (fits120 hy)) (fun u v W hu hv => nminus x y (fits120 hx) (fits120 hy) u v W hu hv) w)
theorem mul_ok (x y : Int) (hx : Fits x) (hy : Fits y) (w : World) : Calls Tryz.prog 62 #[.string (intB x), .string (intB y)] w (GivesInt (okS (x * y)) (okE (x * y)) w) :=
  mul_any _ _ _ _ w (comb_ok (enters_of Tryz.func93 (by kernel_rfl) rfl) x y (x * y) hx hy (mul_lt120 (fits120 hx) (fits120 hy)) (fun u v W hu hv => ntimes x y (fits120 hx) (fits120 hy) u v W hu hv) w)
theorem gcd_ok (x y : Int) (hx : Fits x) (hy : Fits y) (w : World) : Calls Tryz.prog 55 #[.string (intB x), .string (intB y)] w (GivesInt (intB (Int.gcd x y : Nat)) 0 w) := by
  have h := comb_ok (enters_of Tryz.func86 (by kernel_rfl) rfl) x y (Int.gcd x y : Nat) hx hy (fits250 (gcd_fits hx hy)) (fun u v W hu hv => gcd1_any x y (fits250 hx) (fits250 hy) u v W hu hv) w
  rw [okS_fits (gcd_fits hx hy), okE_fits (gcd_fits hx hy)] at h
  exact gcd_call _ _ _ _ w h
set_option maxRecDepth 100000 in
set_option maxHeartbeats 4000000 in
theorem cmp_ok (x y : Int) (hx : Fits x) (hy : Fits y) (w : World) : Calls Tryz.prog 43 #[.string (intB x), .string (intB y)] w fun e w' => e = .returned (.int .i64 (cmpI x y)) ∧ Below w.heap.size w w' := by
  have HB := Lib.hid (both_ok x y hx hy)
  have HC := Lib.hid (fun u v W hu hv => ncmp x y (fits250 hx) (fits250 hy) u v W hu hv)
  generalize intB x = s at *
  generalize intB y = t at *
  generalize cmpI x y = r at *
  clear hx hy
  go_enter Tryz.func43, Tryz.ntmps43
  go_wp2_with fail
  refine (HB.out w).mono ?_
  rintro e w1 ⟨⟨u, v, rfl, hu, hv⟩, hB1⟩
  have HU := Lib.hid hu
  have HVV := Lib.hid hv
  obtain ⟨a, ca, rfl, _, _⟩ := hu
  obtain ⟨b, cb, rfl, _, _⟩ := hv
  generalize (digsL 10000 x.natAbs).length = n at *
  generalize (digsL 10000 y.natAbs).length = m at *
  generalize decide (x < 0) = sx at *
  generalize decide (y < 0) = sy at *
  obtain ⟨hb, hc1, hc2⟩ := boxes_made (w := w1) (x1 := .bool sx) (x2 := .slice a n ca) (y1 := .bool sy) (y2 := .slice b m cb)
  obtain ⟨k1, k2, _, _⟩ := heap_cells hc1
  obtain ⟨k3, k4, _, _⟩ := heap_cells hc2
  have HU2 := Lib.hid (HU.out.via hb)
  have HV2 := Lib.hid (HVV.out.via hb)
  have HB2 := Lib.hid (belowVia hb hB1)
  clear hb hc1 hc2 HU HVV hB1
  go_wp2_with fail
  refine (HC.out _ _ _ HU2.out HV2.out).mono ?_
  rintro e w2 ⟨rfl, hB3⟩
  go_wp2_with fail
  go_ret
  exact ⟨rfl, belowVia hB3 HB2.out⟩
set_option maxRecDepth 100000 in
set_option maxHeartbeats 4000000 in
theorem cmp_no (s t : ByteArray) (w : World) (h : Calls Tryz.prog 68 #[.string s, .string t] w fun e w' => e = .returned (.tuple #[.agg #[.bool false, .slice none 0 0], .agg #[.bool false, .slice none 0 0], .bool false]) ∧ Below w.heap.size w w') :
    Calls Tryz.prog 43 #[.string s, .string t] w fun e w' => e = .returned (.int .i64 0) ∧ Below w.heap.size w w' := by
  have HB := Lib.hid h
  clear h
  go_enter Tryz.func43, Tryz.ntmps43
  go_wp2_with fail
  refine HB.out.mono ?_
  rintro e w1 ⟨rfl, hB1⟩
  go_wp2_with fail
  go_ret
  exact ⟨rfl, belowVia ((alloc_below _ _).alloc (by simp) _) hB1⟩
set_option maxRecDepth 100000 in
set_option maxHeartbeats 4000000 in
theorem div_no (s t : ByteArray) (w : World) (h : Calls Tryz.prog 68 #[.string s, .string t] w fun e w' => e = .returned (.tuple #[.agg #[.bool false, .slice none 0 0], .agg #[.bool false, .slice none 0 0], .bool false]) ∧ Below w.heap.size w w') :
    Calls Tryz.prog 42 #[.string s, .string t] w fun e w' => e = .returned (.tuple #[.string ⟨#[]⟩, .string ⟨#[]⟩, .int .i64 30]) ∧ Below w.heap.size w w' := by
  have HB := Lib.hid h
  clear h
  go_enter Tryz.func42, Tryz.ntmps42
  go_wp2_with fail
  refine HB.out.mono ?_
  rintro e w1 ⟨rfl, hB1⟩
  obtain ⟨hb, hc1, hc2⟩ := boxes_made (w := w1) (x1 := .bool false) (x2 := .slice none 0 0) (y1 := .bool false) (y2 := .slice none 0 0)
  obtain ⟨k1, k2, _, _⟩ := heap_cells hc1
  obtain ⟨k3, k4, _, _⟩ := heap_cells hc2
  clear hb hc1 hc2
  go_wp2_with fail
  go_ret3
  exact ⟨rfl, belowVia ((alloc_below _ _).alloc (by simp) _) hB1⟩
set_option maxRecDepth 100000 in
set_option maxHeartbeats 4000000 in
theorem div_zero (x : Int) (hx : Fits x) (w : World) :
    Calls Tryz.prog 42 #[.string (intB x), .string (intB 0)] w fun e w' => e = .returned (.tuple #[.string ⟨#[]⟩, .string ⟨#[]⟩, .int .i64 30]) ∧ Below w.heap.size w w' := by
  have h0 : Fits 0 := by show (0 : Int).natAbs < 10 ^ 200; exact Nat.pow_pos (by decide)
  have HB := Lib.hid (both_ok x 0 hx h0)
  have HZ := Lib.hid (fun v W hv => nzero 0 (fits250 h0) v W hv)
  rw [show decide ((0 : Int) = 0) = true from rfl] at HZ
  generalize intB x = s at *
  generalize intB 0 = t at *
  obtain ⟨y, hy⟩ : ∃ y : Int, y = 0 := ⟨_, rfl⟩
  rw [← hy] at HB HZ
  clear hx h0 hy
  go_enter Tryz.func42, Tryz.ntmps42
  go_wp2_with fail
  refine (HB.out w).mono ?_
  rintro e w1 ⟨⟨u, v, rfl, hu, hv⟩, hB1⟩
  have HVV := Lib.hid hv
  obtain ⟨a, ca, rfl, _, _⟩ := hu
  obtain ⟨b, cb, rfl, _, _⟩ := hv
  generalize (digsL 10000 x.natAbs).length = n at *
  generalize (digsL 10000 y.natAbs).length = m at *
  generalize decide (x < 0) = sx at *
  generalize decide (y < 0) = sy at *
  obtain ⟨hb, hc1, hc2⟩ := boxes_made (w := w1) (x1 := .bool sx) (x2 := .slice a n ca) (y1 := .bool sy) (y2 := .slice b m cb)
  obtain ⟨k1, k2, _, _⟩ := heap_cells hc1
  obtain ⟨k3, k4, _, _⟩ := heap_cells hc2
  have HV2 := Lib.hid (HVV.out.via hb)
  have HB2 := Lib.hid (belowVia hb hB1)
  clear hb hc1 hc2 HVV hB1
  go_wp2_with fail
  refine (HZ.out _ _ HV2.out).mono ?_
  rintro e w2 ⟨rfl, hB3⟩
  go_wp2_with fail
  go_ret3
  exact ⟨rfl, belowVia hB3 HB2.out⟩
set_option maxRecDepth 100000 in
set_option maxHeartbeats 4000000 in
theorem div_ok (x y : Int) (hx : Fits x) (hy : Fits y) (h0 : y ≠ 0) (w : World) :
    Calls Tryz.prog 42 #[.string (intB x), .string (intB y)] w fun e w' => e = .returned (.tuple #[.string (intB (x / y)), .string (intB (x % y)), .int .i64 0]) ∧ Below w.heap.size w w' := by
  have HB := Lib.hid (both_ok x y hx hy)
  have HZ := Lib.hid (fun v W hv => nzero y (fits250 hy) v W hv)
  rw [show decide (y = 0) = false by simp [h0]] at HZ
  have HD := Lib.hid (fun u v W hu hv => ndiv x y (fits120 hx) (fits120 hy) h0 u v W hu hv)
  obtain ⟨e1, e2, e3⟩ := ediv_spec x y h0
  have hrb : (x % y).natAbs < 10000 ^ 250 := by have := fits250 hy; omega
  have hqb : (x / y).natAbs < 10000 ^ 250 := Nat.lt_of_le_of_lt (Int.natAbs_ediv_le_natAbs x y) (fits250 hx)
  have HQ := Lib.hid (fun v W hv => ntext (x / y) hqb v W hv)
  have HR := Lib.hid (fun v W hv => ntext (x % y) hrb v W hv)
  generalize intB (x / y) = qs at *
  generalize intB (x % y) = rs at *
  generalize intB x = s at *
  generalize intB y = t at *
  generalize x / y = q at *
  generalize x % y = r at *
  clear hx hy h0 e1 e2 e3 hrb hqb
  go_enter Tryz.func42, Tryz.ntmps42
  go_wp2_with fail
  refine (HB.out w).mono ?_
  rintro e w1 ⟨⟨u, v, rfl, hu, hv⟩, hB1⟩
  have HU := Lib.hid hu
  have HVV := Lib.hid hv
  obtain ⟨a, ca, rfl, _, _⟩ := hu
  obtain ⟨b, cb, rfl, _, _⟩ := hv
  generalize (digsL 10000 x.natAbs).length = n at *
  generalize (digsL 10000 y.natAbs).length = m at *
  generalize decide (x < 0) = sx at *
  generalize decide (y < 0) = sy at *
  obtain ⟨hb, hc1, hc2⟩ := boxes_made (w := w1) (x1 := .bool sx) (x2 := .slice a n ca) (y1 := .bool sy) (y2 := .slice b m cb)
  have HC1 := Lib.hid hc1
  have HC2 := Lib.hid hc2
  obtain ⟨k1, k2, _, _⟩ := heap_cells hc1
  obtain ⟨k3, k4, _, _⟩ := heap_cells hc2
  have HU2 := Lib.hid (HU.out.via hb)
  have HV2 := Lib.hid (HVV.out.via hb)
  have HB2 := Lib.hid (belowVia hb hB1)
  clear hb hc1 hc2 HU HVV hB1
  go_wp2_with fail
  refine (HZ.out _ _ HV2.out).mono ?_
  rintro e w2 ⟨rfl, hB3⟩
  obtain ⟨k1', k2', _, _⟩ := heap_cells (heap_below hB3 HC1.out)
  obtain ⟨k3', k4', _, _⟩ := heap_cells (heap_below hB3 HC2.out)
  have HU3 := Lib.hid (HU2.out.via hB3)
  have HV3 := Lib.hid (HV2.out.via hB3)
  have HB3 := Lib.hid (belowVia hB3 HB2.out)
  clear hB3 k1 k2 k3 k4 HC1 HC2 HU2 HV2
  go_wp2_with fail
  refine (HD.out _ _ _ HU3.out HV3.out).mono ?_
  rintro e w3 ⟨⟨qv, rv, rfl, hq, hr⟩, hB4⟩
  have HQ4 := Lib.hid hq
  have HR4 := Lib.hid hr
  obtain ⟨a, ca, rfl, _, _⟩ := hq
  obtain ⟨b, cb, rfl, _, _⟩ := hr
  generalize (digsL 10000 q.natAbs).length = n2 at *
  generalize (digsL 10000 r.natAbs).length = m2 at *
  generalize decide (q < 0) = sq at *
  generalize decide (r < 0) = sr at *
  obtain ⟨hb, hc1, hc2⟩ := boxes_made (w := w3) (x1 := .bool sq) (x2 := .slice a n2 ca) (y1 := .bool sr) (y2 := .slice b m2 cb)
  obtain ⟨j1, j2, _, _⟩ := heap_cells hc1
  obtain ⟨j3, j4, _, _⟩ := heap_cells hc2
  have HQ5 := Lib.hid (HQ4.out.via hb)
  have HR5 := Lib.hid (HR4.out.via hb)
  have HB5 := Lib.hid (belowVia hb (belowVia hB4 HB3.out))
  clear hb hc1 hc2 HQ4 HR4 hB4 k1' k2' k3' k4' HU3 HV3
  go_wp2_with fail
  generalize World.alloc (World.alloc _ _) _ = w5 at *
  go_region_held3 (fun w' => w'.cell? ⟨w3.heap.size, 0, none⟩ = some (.bool sq) ∧ w'.cell? ⟨w3.heap.size, 1, none⟩ = some (.slice a n2 ca) ∧ w'.cell? ⟨w3.heap.size + 1, 0, none⟩ = some (.bool sr) ∧ w'.cell? ⟨w3.heap.size + 1, 1, none⟩ = some (.slice b m2 cb)) (first | exact ⟨j1, j2, j3, j4⟩ | exact ⟨keptBelow hC1 j1, keptBelow hC1 j2, keptBelow hC1 j3, keptBelow hC1 j4⟩ | exact ⟨keptBelow hC2 (keptBelow hC1 j1), keptBelow hC2 (keptBelow hC1 j2), keptBelow hC2 (keptBelow hC1 j3), keptBelow hC2 (keptBelow hC1 j4)⟩) (first
    | (go_at_call 71; (with_reducible refine (HQ.out _ _ ?_).mono ?_); exact NumAt.via (Below.refl _ _).drew HQ5.out; rintro e w6 ⟨rfl, hC1⟩)
    | (go_at_call 71; (with_reducible refine (HR.out _ _ ?_).mono ?_); exact NumAt.via hC1 (NumAt.via (Below.refl _ _).drew HR5.out); rintro e w7 ⟨rfl, hC2⟩))
  go_wp2_with fail
  go_ret3
  exact ⟨rfl, belowVia hC2 (belowVia (undrew hC1) HB5.out)⟩
end Go.Proofs.YtelckldddflmmaaGreatDoor
/- RatPure: Plain mathematics of layer 4: fractions in lowest terms whose parts have at most 200 digits; what the operations answer. Nothing of the program. -/
namespace Putlog

/-- Both parts are valid integers. -/
def FitsQ (q : Rat) : Prop := Fits q.num ∧ Fits (q.den : Int)
instance (q : Rat) : Decidable (FitsQ q) := inferInstanceAs (Decidable (_ ∧ _))
theorem FitsQ.num {q : Rat} (h : FitsQ q) : Fits q.num := h.1
theorem FitsQ.den {q : Rat} (h : FitsQ q) : Fits (q.den : Int) := h.2
theorem fits_le {a b : Int} (h : a.natAbs ≤ b.natAbs) (hb : Fits b) : Fits a := Nat.lt_of_le_of_lt h hb
theorem den_posI (q : Rat) : (0 : Int) < q.den := by have := q.den_pos; omega
/-- Reduced: the greatest divisor of both is taken out. -/
theorem red_pos {n d : Int} (hd : 0 < d) : (Rat.divInt n d).num = n / (Int.gcd n d : Int) ∧ ((Rat.divInt n d).den : Int) = d / (Int.gcd n d : Int) := by
  refine ⟨?_, ?_⟩
  · rw [Rat.num_divInt, Int.sign_eq_one_of_pos hd, Int.one_mul, Int.gcd_comm]
  · rw [Rat.den_divInt, if_neg (by omega), Int.gcd_comm]
    obtain ⟨m, rfl⟩ : ∃ m : Nat, d = m := ⟨d.toNat, by omega⟩
    rw [Int.natAbs_natCast, Int.natCast_ediv]
theorem gcd_posI {n d : Int} (hd : d ≠ 0) : (0 : Int) < (Int.gcd n d : Int) := by
  have := Int.gcd_pos_of_ne_zero_right n hd
  omega
theorem red_fits {n d : Int} (hn : Fits n) (hd : Fits d) (h0 : d ≠ 0) : FitsQ (Rat.divInt n d) := by
  have key : ∀ {n d : Int}, Fits n → Fits d → 0 < d → FitsQ (Rat.divInt n d) := by
    intro n d hn hd h
    obtain ⟨e1, e2⟩ := red_pos (n := n) h
    refine ⟨?_, ?_⟩
    · rw [e1]; exact fits_le (Int.natAbs_ediv_le_natAbs n _) hn
    · rw [e2]; exact fits_le (Int.natAbs_ediv_le_natAbs d _) hd
  rcases Int.lt_or_gt_of_ne h0 with h | h
  · have h1 : Rat.divInt n d = Rat.divInt (-n) (-d) := by rw [Rat.divInt_neg', Int.neg_neg]
    rw [h1]
    exact key (by unfold Fits at *; rwa [Int.natAbs_neg]) (by unfold Fits at *; rwa [Int.natAbs_neg]) (by omega)
  · exact key hn hd h
theorem add_red (a b : Rat) : a + b = Rat.divInt (a.num * b.den + b.num * a.den) (a.den * b.den) := by
  have ha := den_posI a
  have hb := den_posI b
  have h := Rat.divInt_add_divInt a.num b.num (d₁ := a.den) (d₂ := b.den) (by omega) (by omega)
  rwa [Rat.num_divInt_den, Rat.num_divInt_den] at h
theorem sub_red (a b : Rat) : a - b = Rat.divInt (a.num * b.den - b.num * a.den) (a.den * b.den) := by
  have ha := den_posI a
  have hb := den_posI b
  have h := Rat.divInt_sub_divInt a.num b.num (d₁ := a.den) (d₂ := b.den) (by omega) (by omega)
  rwa [Rat.num_divInt_den, Rat.num_divInt_den] at h
theorem mul_red (a b : Rat) : a * b = Rat.divInt (a.num * b.num) (a.den * b.den) := by
  have h := Rat.divInt_mul_divInt a.num b.num (d₁ := a.den) (d₂ := b.den)
  rwa [Rat.num_divInt_den, Rat.num_divInt_den] at h
theorem div_red (a b : Rat) : a / b = Rat.divInt (a.num * b.den) (a.den * b.num) := by
  have h := Rat.divInt_mul_divInt a.num b.den (d₁ := a.den) (d₂ := b.num)
  rw [← Rat.inv_divInt b.num, Rat.num_divInt_den, Rat.num_divInt_den] at h
  rw [Rat.div_def, h]
theorem num_ne {q : Rat} (h : q ≠ 0) : q.num ≠ 0 := fun e => h (Rat.num_eq_zero.1 e)
/-- Which operations are not too large. -/
def okAdd (a b : Rat) : Prop := Fits (a.num * b.den) ∧ Fits (b.num * a.den) ∧ Fits ((a.den : Int) * b.den) ∧ Fits (a.num * b.den + b.num * a.den)
def okSub (a b : Rat) : Prop := Fits (a.num * b.den) ∧ Fits (b.num * a.den) ∧ Fits ((a.den : Int) * b.den) ∧ Fits (a.num * b.den - b.num * a.den)
def okMul (a b : Rat) : Prop := Fits (a.num * b.num) ∧ Fits ((a.den : Int) * b.den)
def okDiv (a b : Rat) : Prop := b ≠ 0 ∧ Fits (a.num * b.den) ∧ Fits (a.den * b.num)
instance (a b : Rat) : Decidable (okAdd a b) := inferInstanceAs (Decidable (_ ∧ _))
instance (a b : Rat) : Decidable (okSub a b) := inferInstanceAs (Decidable (_ ∧ _))
instance (a b : Rat) : Decidable (okMul a b) := inferInstanceAs (Decidable (_ ∧ _))
instance (a b : Rat) : Decidable (okDiv a b) := inferInstanceAs (Decidable (_ ∧ _))
/-- What an operation answers: nothing where an argument is no valid fraction, or something is too large. -/
def lift2 (ok : Rat → Rat → Prop) [∀ a b, Decidable (ok a b)] (op : Rat → Rat → Rat) : Option Rat → Option Rat → Option Rat
  | some a, some b => if ok a b then some (op a b) else none
  | _, _ => none
def addQ : Option Rat → Option Rat → Option Rat := lift2 okAdd (· + ·)
def subQ : Option Rat → Option Rat → Option Rat := lift2 okSub (· - ·)
def mulQ : Option Rat → Option Rat → Option Rat := lift2 okMul (· * ·)
def divQ : Option Rat → Option Rat → Option Rat := lift2 okDiv (· / ·)
theorem lift2_some {ok : Rat → Rat → Prop} [∀ a b, Decidable (ok a b)] {op : Rat → Rat → Rat} {x y : Option Rat} {r : Rat} (h : lift2 ok op x y = some r) : ∃ a b, x = some a ∧ y = some b ∧ ok a b ∧ r = op a b := by
  unfold lift2 at h
  split at h
  · rename_i a b
    split at h
    · rename_i hok
      exact ⟨a, b, rfl, rfl, hok, by cases h; rfl⟩
    · cases h
  · cases h
theorem lift2_ok {ok : Rat → Rat → Prop} [∀ a b, Decidable (ok a b)] {op : Rat → Rat → Rat} {a b : Rat} (h : ok a b) : lift2 ok op (some a) (some b) = some (op a b) := if_pos h
theorem lift2_no {ok : Rat → Rat → Prop} [∀ a b, Decidable (ok a b)] {op : Rat → Rat → Rat} {a b : Rat} (h : ¬ ok a b) : lift2 ok op (some a) (some b) = none := if_neg h
def FitsO : Option Rat → Prop
  | some q => FitsQ q
  | none => True
theorem fitsO_add (x y : Option Rat) : FitsO (addQ x y) := by
  cases h : addQ x y with
  | none => trivial
  | some r =>
    obtain ⟨a, b, rfl, rfl, ⟨_, _, h3, h4⟩, rfl⟩ := lift2_some h
    show FitsQ (a + b)
    rw [add_red]; exact red_fits h4 h3 (Int.ne_of_gt (Int.mul_pos (den_posI a) (den_posI b)))
theorem fitsO_sub (x y : Option Rat) : FitsO (subQ x y) := by
  cases h : subQ x y with
  | none => trivial
  | some r =>
    obtain ⟨a, b, rfl, rfl, ⟨_, _, h3, h4⟩, rfl⟩ := lift2_some h
    show FitsQ (a - b)
    rw [sub_red]; exact red_fits h4 h3 (Int.ne_of_gt (Int.mul_pos (den_posI a) (den_posI b)))
theorem fitsO_mul (x y : Option Rat) : FitsO (mulQ x y) := by
  cases h : mulQ x y with
  | none => trivial
  | some r =>
    obtain ⟨a, b, rfl, rfl, ⟨h3, h4⟩, rfl⟩ := lift2_some h
    show FitsQ (a * b)
    rw [mul_red]; exact red_fits h3 h4 (Int.ne_of_gt (Int.mul_pos (den_posI a) (den_posI b)))
theorem fitsO_div (x y : Option Rat) : FitsO (divQ x y) := by
  cases h : divQ x y with
  | none => trivial
  | some r =>
    obtain ⟨a, b, rfl, rfl, ⟨h0, h3, h4⟩, rfl⟩ := lift2_some h
    show FitsQ (a / b)
    rw [div_red]; exact red_fits h3 h4 (Int.mul_ne_zero (Int.ne_of_gt (den_posI a)) (num_ne h0))
/-- The order. -/
def cmpQ : Option Rat → Option Rat → Int
  | some a, some b => if a < b then -1 else if b < a then 1 else 0
  | _, _ => 0
/-- Rounding to a grid. -/
def okDown (r : Rat) (p : Nat) : Prop := p ≤ 30 ∧ Fits (r.num * 10 ^ p)
def downI (r : Rat) (p : Nat) : Int := r.num * 10 ^ p / r.den
def upI (r : Rat) (p : Nat) : Int := if r.num * 10 ^ p % r.den = 0 then downI r p else downI r p + 1
def okUp (r : Rat) (p : Nat) : Prop := okDown r p ∧ Fits (upI r p)
instance (r : Rat) (p : Nat) : Decidable (okDown r p) := inferInstanceAs (Decidable (_ ∧ _))
instance (r : Rat) (p : Nat) : Decidable (okUp r p) := inferInstanceAs (Decidable (_ ∧ _))
def downQ (r : Option Rat) (p : Int) : Option Rat :=
  match r with
  | some q => if 0 ≤ p ∧ okDown q p.toNat then some (Rat.divInt (downI q p.toNat) (10 ^ p.toNat)) else none
  | none => none
def upQ (r : Option Rat) (p : Int) : Option Rat :=
  match r with
  | some q => if 0 ≤ p ∧ okUp q p.toNat then some (Rat.divInt (upI q p.toNat) (10 ^ p.toNat)) else none
  | none => none

/-! ### The field's laws -/
theorem addQ_comm (x y : Option Rat) : addQ x y = addQ y x := by
  cases x with
  | none => cases y <;> rfl
  | some a =>
    cases y with
    | none => rfl
    | some b =>
      have h : okAdd a b ↔ okAdd b a := by
        unfold okAdd
        rw [Int.mul_comm (a.den : Int) b.den, Int.add_comm (a.num * b.den)]
        constructor
        · rintro ⟨h1, h2, h3, h4⟩; exact ⟨h2, h1, h3, h4⟩
        · rintro ⟨h1, h2, h3, h4⟩; exact ⟨h2, h1, h3, h4⟩
      show (if okAdd a b then some (a + b) else none) = if okAdd b a then some (b + a) else none
      rw [Rat.add_comm]
      by_cases k : okAdd a b
      · rw [if_pos k, if_pos (h.1 k)]
      · rw [if_neg k, if_neg (fun e => k (h.2 e))]
theorem mulQ_comm (x y : Option Rat) : mulQ x y = mulQ y x := by
  cases x with
  | none => cases y <;> rfl
  | some a =>
    cases y with
    | none => rfl
    | some b =>
      have h : okMul a b ↔ okMul b a := by unfold okMul; rw [Int.mul_comm (a.den : Int) b.den, Int.mul_comm a.num]
      show (if okMul a b then some (a * b) else none) = if okMul b a then some (b * a) else none
      rw [Rat.mul_comm]
      by_cases k : okMul a b
      · rw [if_pos k, if_pos (h.1 k)]
      · rw [if_neg k, if_neg (fun e => k (h.2 e))]
theorem addQ_assoc {a b c ab bc l r : Option Rat} {r1 r2 : Rat} (h1 : addQ a b = ab) (h2 : addQ b c = bc) (h3 : addQ ab c = l) (h4 : addQ a bc = r) (k1 : l = some r1) (k2 : r = some r2) : r1 = r2 := by
  subst h1 h2 h3 h4
  obtain ⟨x, z, e1, e2, _, rfl⟩ := lift2_some k1
  obtain ⟨x1, y1, e3, e4, _, rfl⟩ := lift2_some e1
  obtain ⟨x2, yz, e5, e6, _, rfl⟩ := lift2_some k2
  obtain ⟨y3, z3, e7, e8, _, rfl⟩ := lift2_some e6
  rw [e3] at e5; rw [e4] at e7; rw [e2] at e8
  cases e5; cases e7; cases e8
  exact Rat.add_assoc _ _ _
theorem mulQ_assoc {a b c ab bc l r : Option Rat} {r1 r2 : Rat} (h1 : mulQ a b = ab) (h2 : mulQ b c = bc) (h3 : mulQ ab c = l) (h4 : mulQ a bc = r) (k1 : l = some r1) (k2 : r = some r2) : r1 = r2 := by
  subst h1 h2 h3 h4
  obtain ⟨x, z, e1, e2, _, rfl⟩ := lift2_some k1
  obtain ⟨x1, y1, e3, e4, _, rfl⟩ := lift2_some e1
  obtain ⟨x2, yz, e5, e6, _, rfl⟩ := lift2_some k2
  obtain ⟨y3, z3, e7, e8, _, rfl⟩ := lift2_some e6
  rw [e3] at e5; rw [e4] at e7; rw [e2] at e8
  cases e5; cases e7; cases e8
  exact Rat.mul_assoc _ _ _
theorem distrQ {a b c s ac bc sum whole : Option Rat} {r1 r2 : Rat} (h1 : addQ a b = s) (h2 : mulQ a c = ac) (h3 : mulQ b c = bc) (h4 : addQ ac bc = sum) (h5 : mulQ s c = whole) (k1 : sum = some r1) (k2 : whole = some r2) : r1 = r2 := by
  subst h1 h2 h3 h4 h5
  obtain ⟨x, z, e1, e2, _, rfl⟩ := lift2_some k1
  obtain ⟨x1, y1, e3, e4, _, rfl⟩ := lift2_some e1
  obtain ⟨x2, y2, e5, e6, _, rfl⟩ := lift2_some e2
  obtain ⟨x3, y3, e7, e8, _, rfl⟩ := lift2_some k2
  obtain ⟨x4, y4, e9, e10, _, rfl⟩ := lift2_some e7
  rw [e3] at e9; rw [e5] at e10; rw [e4] at e6; rw [e4] at e8
  cases e9; cases e10; cases e6; cases e8
  exact (Rat.add_mul _ _ _).symm
theorem backQ {a b : Rat} {s t : Option Rat} {r : Rat} (h1 : addQ (some a) (some b) = s) (h2 : subQ s (some b) = t) (k : t = some r) : r = a := by
  subst h1 h2
  obtain ⟨x, y, e1, e2, _, rfl⟩ := lift2_some k
  obtain ⟨x1, y1, e3, e4, _, rfl⟩ := lift2_some e1
  cases e2; cases e3; cases e4
  rw [Rat.sub_eq_add_neg, Rat.add_assoc, Rat.add_neg_cancel, Rat.add_zero]
theorem againQ {a b : Rat} {s t : Option Rat} {r : Rat} (h1 : divQ (some a) (some b) = s) (h2 : mulQ s (some b) = t) (k : t = some r) : r = a := by
  subst h1 h2
  obtain ⟨x, y, e1, e2, _, rfl⟩ := lift2_some k
  obtain ⟨x1, y1, e3, e4, ⟨h0, _⟩, rfl⟩ := lift2_some e1
  cases e2; cases e3; cases e4
  exact Rat.div_mul_cancel h0
end Putlog
/- RatCmp: Plain mathematics of layer 4: the order of fractions, by whole parts and what is left of them. Nothing of the program. -/
namespace Putlog

def cmpZ (a b : Int) : Int := if a < b then -1 else if b < a then 1 else 0
theorem cmpZ_lt {a b : Int} (h : a < b) : cmpZ a b = -1 := if_pos h
theorem cmpZ_gt {a b : Int} (h : b < a) : cmpZ a b = 1 := by unfold cmpZ; rw [if_neg (by omega), if_pos h]
theorem cmpZ_self (a : Int) : cmpZ a a = 0 := by unfold cmpZ; rw [if_neg (by omega), if_neg (by omega)]
theorem cmpZ_bounds (a b : Int) : -1 ≤ cmpZ a b ∧ cmpZ a b ≤ 1 := by unfold cmpZ; split <;> (try split) <;> omega
theorem cmpZ_swap (a b : Int) : cmpZ b a = - cmpZ a b := by unfold cmpZ; split <;> split <;> (try split) <;> omega
theorem cmpZ_zero {a b : Int} : cmpZ a b = 0 ↔ a = b := by unfold cmpZ; split <;> (try split) <;> omega
theorem cmpZ_congr {a b c d : Int} (h1 : a < b ↔ c < d) (h2 : b < a ↔ d < c) : cmpZ a b = cmpZ c d := by
  unfold cmpZ; simp only [h1, h2]
theorem cmpZ_cases (a b : Int) : (a < b ∧ cmpZ a b = -1) ∨ (a = b ∧ cmpZ a b = 0) ∨ (b < a ∧ cmpZ a b = 1) := by
  unfold cmpZ; split <;> (try split) <;> omega
theorem whole_lt {n d m c : Int} (hd : 0 < d) (hc : 0 < c) (h : n / d < m / c) : n * c < m * d := by
  have h1 : n < (n / d + 1) * d := Int.lt_ediv_add_one_mul_self n hd
  have h2 : m / c * c ≤ m := Int.ediv_mul_le m (Int.ne_of_gt hc)
  have h3 : (n / d + 1) * d ≤ m / c * d := Int.mul_le_mul_of_nonneg_right h (Int.le_of_lt hd)
  have h4 : n < m / c * d := Int.lt_of_lt_of_le h1 h3
  have h5 : n * c < m / c * d * c := Int.mul_lt_mul_of_pos_right h4 hc
  have h6 : m / c * c * d ≤ m * d := Int.mul_le_mul_of_nonneg_right h2 (Int.le_of_lt hd)
  rw [Int.mul_right_comm] at h6
  exact Int.lt_of_lt_of_le h5 h6
theorem cmp_whole {n d m c : Int} (hd : 0 < d) (hc : 0 < c) (h : n / d ≠ m / c) : cmpZ (n / d) (m / c) = cmpZ (n * c) (m * d) := by
  rcases Int.lt_or_gt_of_ne h with h | h
  · rw [cmpZ_lt h, cmpZ_lt (whole_lt hd hc h)]
  · rw [cmpZ_gt h, cmpZ_gt (whole_lt hc hd h)]
theorem cmp_rest {n d m c : Int} (h : n / d = m / c) : cmpZ (n * c) (m * d) = cmpZ (n % d * c) (m % c * d) := by
  have h1 : n * c = (n / d) * d * c + n % d * c := by
    rw [← Int.add_mul]; congr 1; rw [Int.mul_comm (n / d) d]; exact (Int.mul_ediv_add_emod n d).symm
  have h2 : m * d = (n / d) * d * c + m % c * d := by
    rw [h, Int.mul_right_comm, ← Int.add_mul]; congr 1; rw [Int.mul_comm (m / c) c]; exact (Int.mul_ediv_add_emod m c).symm
  rw [h1, h2]
  exact cmpZ_congr (by omega) (by omega)
theorem cmp_end {r s c d : Int} (hd : 0 < d) (hc : 0 < c) (hr : 0 ≤ r) (hs : 0 ≤ s) (h : r = 0 ∨ s = 0) : cmpZ (r * c) (s * d) = cmpZ r s := by
  have e1 : 0 < r → 0 < r * c := fun h => Int.mul_pos h hc
  have e2 : 0 < s → 0 < s * d := fun h => Int.mul_pos h hd
  have e3 : r = 0 → r * c = 0 := fun h => by rw [h, Int.zero_mul]
  have e4 : s = 0 → s * d = 0 := fun h => by rw [h, Int.zero_mul]
  rcases Int.lt_or_eq_of_le hr with h1 | h1 <;> rcases Int.lt_or_eq_of_le hs with h2 | h2
  · omega
  · rw [e4 h2.symm, cmpZ_gt (e1 h1), cmpZ_gt (by omega)]
  · rw [e3 h1.symm, cmpZ_lt (e2 h2), cmpZ_lt (by omega)]
  · rw [e3 h1.symm, e4 h2.symm, ← h1, ← h2]
def zeroOr (r : Int) : Int := if r = 0 then 0 else 1
theorem cmp_zeroOr {r s : Int} (hr : 0 ≤ r) (hs : 0 ≤ s) (h : r = 0 ∨ s = 0) : cmpZ (zeroOr r) (zeroOr s) = cmpZ r s := by
  unfold zeroOr cmpZ; split <;> split <;> split <;> (try split) <;> (try split) <;> (try split) <;> omega
theorem cmp_turn (r s c d : Int) : cmpZ (r * c) (s * d) = cmpZ (c * r) (d * s) := by rw [Int.mul_comm r, Int.mul_comm s]
/-- The order of fractions. -/
def cmpR (a b : Rat) : Int := cmpZ (a.num * b.den) (b.num * a.den)
theorem cmpR_cases (a b : Rat) : (a < b ∧ cmpR a b = -1) ∨ (a = b ∧ cmpR a b = 0) ∨ (b < a ∧ cmpR a b = 1) := by
  unfold cmpR
  rcases cmpZ_cases (a.num * b.den) (b.num * a.den) with ⟨h, e⟩ | ⟨h, e⟩ | ⟨h, e⟩
  · exact .inl ⟨(Rat.lt_iff _ _).2 h, e⟩
  · exact .inr (.inl ⟨Rat.eq_iff_mul_eq_mul.2 h, e⟩)
  · exact .inr (.inr ⟨(Rat.lt_iff _ _).2 h, e⟩)
theorem cmpR_bounds (a b : Rat) : -1 ≤ cmpR a b ∧ cmpR a b ≤ 1 := cmpZ_bounds _ _
theorem cmpR_swap (a b : Rat) : cmpR b a = - cmpR a b := cmpZ_swap _ _
theorem cmpR_self (a : Rat) : cmpR a a = 0 := cmpZ_self _
theorem cmpR_zero {a b : Rat} : cmpR a b = 0 ↔ a = b := by
  unfold cmpR; rw [cmpZ_zero]; exact Rat.eq_iff_mul_eq_mul.symm
theorem cmpR_lt {a b : Rat} (h : a < b) : cmpR a b = -1 := cmpZ_lt ((Rat.lt_iff _ _).1 h)
theorem cmpR_gt {a b : Rat} (h : b < a) : cmpR a b = 1 := cmpZ_gt ((Rat.lt_iff _ _).1 h)
theorem cmpR_congr {a b c d : Rat} (h1 : a < b ↔ c < d) (h2 : b < a ↔ d < c) : cmpR a b = cmpR c d := by
  rcases cmpR_cases a b with ⟨h, e⟩ | ⟨h, e⟩ | ⟨h, e⟩
  · rw [e, cmpR_lt (h1.1 h)]
  · rw [e]
    rcases cmpR_cases c d with ⟨k, e⟩ | ⟨k, e⟩ | ⟨k, e⟩
    · exact absurd (h1.2 k) (by rw [h]; exact Rat.lt_irrefl)
    · exact e.symm
    · exact absurd (h2.2 k) (by rw [h]; exact Rat.lt_irrefl)
  · rw [e, cmpR_gt (h2.1 h)]
theorem cmpR_le {a b : Rat} : cmpR a b ≤ 0 ↔ a ≤ b := by
  rcases cmpR_cases a b with ⟨h, e⟩ | ⟨h, e⟩ | ⟨h, e⟩ <;> rw [e]
  · exact ⟨fun _ => Rat.le_of_lt h, fun _ => by omega⟩
  · exact ⟨fun _ => by rw [h]; exact Rat.le_refl, fun _ => by omega⟩
  · exact ⟨fun h => by omega, fun k => absurd h (Rat.not_lt.2 k)⟩
theorem cmpR_neg {a b : Rat} : cmpR a b < 0 ↔ a < b := by
  rcases cmpR_cases a b with ⟨h, e⟩ | ⟨h, e⟩ | ⟨h, e⟩ <;> rw [e]
  · exact ⟨fun _ => h, fun _ => by omega⟩
  · exact ⟨fun h => by omega, fun k => absurd k (by rw [h]; exact Rat.lt_irrefl)⟩
  · exact ⟨fun h => by omega, fun k => absurd k (Rat.not_lt.2 (Rat.le_of_lt h))⟩
theorem lt_of_le_ltR {a b c : Rat} (h : a ≤ b) (k : b < c) : a < c := Rat.not_le.1 fun e => absurd k (Rat.not_lt.2 (Rat.le_trans e h))
theorem cmpR_trans {a b c : Rat} (h : cmpR a b ≤ 0) (k : cmpR b c ≤ 0) : cmpR a c ≤ 0 := cmpR_le.2 (Rat.le_trans (cmpR_le.1 h) (cmpR_le.1 k))
theorem cmpR_trans_lt {a b c : Rat} (h : cmpR a b ≤ 0) (k : cmpR b c < 0) : cmpR a c < 0 := cmpR_neg.2 (lt_of_le_ltR (cmpR_le.1 h) (cmpR_neg.1 k))
theorem cmpR_sub (a b : Rat) : cmpR (a - b) 0 = cmpR a b := by
  refine cmpR_congr ?_ ?_
  · rw [← Rat.add_lt_add_right (c := b), Rat.sub_add_cancel, Rat.zero_add]
  · exact (Rat.lt_iff_sub_pos b a).symm
theorem cmpR_add (a b t : Rat) : cmpR (a + t) (b + t) = cmpR a b := cmpR_congr Rat.add_lt_add_right Rat.add_lt_add_right
theorem cmpR_mul (a b t : Rat) : cmpR (a * t) (b * t) = cmpR a b * cmpR t 0 := by
  rcases cmpR_cases t 0 with ⟨h, e⟩ | ⟨h, e⟩ | ⟨h, e⟩ <;> rw [e]
  · have hn : 0 < -t := by have := Rat.neg_lt_neg h; rwa [Rat.neg_zero] at this
    have e1 : ∀ x : Rat, x * t = -(x * -t) := fun x => by rw [Rat.mul_neg, Rat.neg_neg]
    rw [e1 a, e1 b, show cmpR a b * -1 = cmpR b a by rw [cmpR_swap a b]; omega]
    exact cmpR_congr (Rat.neg_lt_neg_iff.trans (Rat.mul_lt_mul_right hn)) (Rat.neg_lt_neg_iff.trans (Rat.mul_lt_mul_right hn))
  · rw [h, Rat.mul_zero, Rat.mul_zero, cmpR_self]; omega
  · rw [show cmpR a b * 1 = cmpR a b by omega]
    exact cmpR_congr (Rat.mul_lt_mul_right h) (Rat.mul_lt_mul_right h)
def cmpO : Option Rat → Option Rat → Int
  | some a, some b => cmpR a b
  | _, _ => 0
end Putlog
/- RatGrid: Plain mathematics of layer 4: grids. Nothing of the program. -/
namespace Putlog

theorem pow_posI (p : Nat) : (0 : Int) < 10 ^ p := Int.pow_pos (by decide)
theorem divInt_le {z T : Int} (hT : 0 < T) (r : Rat) : Rat.divInt z T ≤ r ↔ z * r.den ≤ r.num * T := by
  have hd := den_posI r
  rw [Rat.le_iff_sub_nonneg]
  have h := Rat.divInt_sub_divInt r.num z (d₁ := r.den) (d₂ := T) (by omega) (by omega)
  rw [Rat.num_divInt_den] at h
  rw [h, Rat.divInt_nonneg_iff_of_pos_right (Int.mul_pos hd hT)]
  omega
theorem le_divInt {z T : Int} (hT : 0 < T) (r : Rat) : r ≤ Rat.divInt z T ↔ r.num * T ≤ z * r.den := by
  have hd := den_posI r
  rw [Rat.le_iff_sub_nonneg]
  have h := Rat.divInt_sub_divInt z r.num (d₁ := T) (d₂ := r.den) (by omega) (by omega)
  rw [Rat.num_divInt_den] at h
  rw [h, Rat.divInt_nonneg_iff_of_pos_right (Int.mul_pos hT hd)]
  omega
theorem divInt_eq {z T : Int} (hT : 0 < T) (r : Rat) : Rat.divInt z T = r ↔ z * r.den = r.num * T := by
  have h : Rat.divInt z T = r ↔ Rat.divInt z T = Rat.divInt r.num r.den := by rw [Rat.num_divInt_den]
  rw [h, Rat.divInt_eq_divInt_iff (by omega) (by have := den_posI r; omega)]
def dnR (r : Rat) (p : Nat) : Rat := Rat.divInt (downI r p) (10 ^ p)
def upR (r : Rat) (p : Nat) : Rat := Rat.divInt (upI r p) (10 ^ p)
theorem upI_spec (r : Rat) (p : Nat) : (r.num * 10 ^ p % r.den = 0 ∧ upI r p = downI r p ∧ r.num * 10 ^ p = downI r p * r.den) ∨
    (r.num * 10 ^ p % r.den ≠ 0 ∧ upI r p = downI r p + 1 ∧ downI r p * r.den < r.num * 10 ^ p ∧ r.num * 10 ^ p < (downI r p + 1) * r.den) := by
  have hd := den_posI r
  obtain ⟨h1, h2, h3⟩ := ediv_spec (r.num * 10 ^ p) r.den (by omega)
  have h4 : (downI r p + 1) * (r.den : Int) = downI r p * r.den + r.den := by rw [Int.add_mul, Int.one_mul]
  have h5 : downI r p = r.num * 10 ^ p / r.den := rfl
  rw [← h5] at h1
  unfold upI
  by_cases h : r.num * 10 ^ p % r.den = 0
  · exact .inl ⟨h, if_pos h, by omega⟩
  · exact .inr ⟨h, if_neg h, by omega, by omega⟩
theorem dn_le (r : Rat) (p : Nat) : dnR r p ≤ r := by
  rw [dnR, divInt_le (pow_posI p)]
  exact Int.ediv_mul_le _ (by have := den_posI r; omega)
theorem le_up (r : Rat) (p : Nat) : r ≤ upR r p := by
  rw [upR, le_divInt (pow_posI p)]
  rcases upI_spec r p with ⟨_, h1, h2⟩ | ⟨_, h1, _, h2⟩ <;> rw [h1] <;> omega
theorem dn_eq (r : Rat) (p : Nat) : dnR r p = r ↔ r.num * 10 ^ p % r.den = 0 := by
  rw [dnR, divInt_eq (pow_posI p)]
  rcases upI_spec r p with ⟨h, _, h2⟩ | ⟨h, _, h2, _⟩
  · exact ⟨fun _ => h, fun _ => h2.symm⟩
  · exact ⟨fun e => by omega, fun e => absurd e h⟩
theorem up_eq (r : Rat) (p : Nat) : upR r p = r ↔ r.num * 10 ^ p % r.den = 0 := by
  rw [upR, divInt_eq (pow_posI p)]
  rcases upI_spec r p with ⟨h, h1, h2⟩ | ⟨h, h1, h2, h3⟩ <;> rw [h1]
  · exact ⟨fun _ => h, fun _ => h2.symm⟩
  · exact ⟨fun e => by omega, fun e => absurd e h⟩
theorem down_neg (r : Rat) (p : Nat) : downI (-r) p = - upI r p := by
  have hd := den_posI r
  show -r.num * 10 ^ p / (r.den : Int) = _
  rw [Int.neg_mul]
  rcases upI_spec r p with ⟨_, h1, h2⟩ | ⟨_, h1, h2, h3⟩ <;> rw [h1]
  · exact (ediv_unique (a := -(r.num * 10 ^ p)) (b := r.den) (q := -downI r p) (r := 0) (by omega) (by rw [Int.neg_mul]; omega) (by omega) (by omega)).1.symm
  · have h4 : (downI r p + 1) * (r.den : Int) = downI r p * r.den + r.den := by rw [Int.add_mul, Int.one_mul]
    have h5 : -(downI r p + 1) * (r.den : Int) = -((downI r p + 1) * (r.den : Int)) := Int.neg_mul _ _
    exact (ediv_unique (a := -(r.num * 10 ^ p)) (b := r.den) (q := -(downI r p + 1)) (r := (downI r p + 1) * r.den - r.num * 10 ^ p) (by omega) (by omega) (by omega) (by omega)).1.symm
theorem dn_neg (r : Rat) (p : Nat) : - dnR (-r) p = upR r p := by
  rw [dnR, upR, down_neg, Rat.neg_divInt, Int.neg_neg]
theorem grid_num (z : Int) (p : Nat) : (Rat.divInt z (10 ^ p)).num * 10 ^ p = z * (Rat.divInt z (10 ^ p)).den := ((divInt_eq (pow_posI p) _).1 rfl).symm
theorem grid_down (z : Int) (p : Nat) : downI (Rat.divInt z (10 ^ p)) p = z := by
  unfold downI
  rw [grid_num]
  exact Int.mul_ediv_cancel _ (by have := den_posI (Rat.divInt z (10 ^ p)); omega)
theorem grid_up (z : Int) (p : Nat) : upI (Rat.divInt z (10 ^ p)) p = z := by
  unfold upI
  rw [grid_num, Int.mul_emod_left, if_pos rfl, grid_down]
theorem dn_up (r : Rat) (p : Nat) : dnR (upR r p) p = upR r p := by
  unfold upR; rw [dnR, grid_down]
theorem up_dn (r : Rat) (p : Nat) : upR (dnR r p) p = dnR r p := by
  unfold dnR; rw [upR, grid_up]
theorem divInt_one (z : Int) : Rat.divInt z 1 = (z : Rat) := by
  have h := Rat.divInt_ofNat z 1
  rw [show ((1 : Nat) : Int) = 1 from rfl] at h
  rw [h]
  exact Rat.mkRat_self (z : Rat)
theorem dn_mul (r : Rat) (p : Nat) : dnR r p * ((10 ^ p : Int) : Rat) = (downI r p : Rat) := by
  have h0 := pow_posI p
  rw [← divInt_one (10 ^ p), dnR, Rat.divInt_mul_divInt, Int.mul_comm (10 ^ p) 1, Rat.divInt_mul_right (by omega), divInt_one]
theorem width_eq (r : Rat) (p : Nat) : upR r p - dnR r p = if r.num * 10 ^ p % r.den = 0 then 0 else Rat.divInt 1 (10 ^ p) := by
  have h0 := pow_posI p
  rcases upI_spec r p with ⟨h, h1, _⟩ | ⟨h, h1, _, _⟩
  · rw [if_pos h, upR, dnR, h1, Rat.sub_self]
  · rw [if_neg h, upR, dnR, h1, Rat.divInt_sub_divInt _ _ (by omega) (by omega), ← Int.sub_mul, Rat.divInt_mul_right (by omega)]
    congr 1; omega
theorem unit_num (p : Nat) : (Rat.divInt 1 (10 ^ p)).num = 1 ∧ ((Rat.divInt 1 (10 ^ p)).den : Int) = 10 ^ p := by
  obtain ⟨h1, h2⟩ := red_pos (n := 1) (pow_posI p)
  rw [h1, h2, Int.gcd_comm, Int.gcd_one]
  exact ⟨by omega, by omega⟩
/-- Sizes. -/
theorem red_num {n d : Int} (hd : 0 < d) : (Rat.divInt n d).num.natAbs ≤ n.natAbs := by
  rw [(red_pos hd).1]; exact Int.natAbs_ediv_le_natAbs n _
theorem red_den {n d : Int} (hd : 0 < d) : ((Rat.divInt n d).den : Int).natAbs ≤ d.natAbs := by
  rw [(red_pos hd).2]; exact Int.natAbs_ediv_le_natAbs d _
/-- Numerator and denominator below powers of ten. -/
def Sz (j k : Nat) (r : Rat) : Prop := r.num.natAbs < 10 ^ j ∧ (r.den : Int).natAbs < 10 ^ k
theorem Sz.fits {j k : Nat} {r : Rat} (h : Sz j k r) (hj : j ≤ 200) (hk : k ≤ 200) : FitsQ r :=
  ⟨Nat.lt_of_lt_of_le h.1 (Nat.pow_le_pow_right (by decide) hj), Nat.lt_of_lt_of_le h.2 (Nat.pow_le_pow_right (by decide) hk)⟩
theorem Sz.mono {j k j' k' : Nat} {r : Rat} (h : Sz j k r) (hj : j ≤ j') (hk : k ≤ k') : Sz j' k' r :=
  ⟨Nat.lt_of_lt_of_le h.1 (Nat.pow_le_pow_right (by decide) hj), Nat.lt_of_lt_of_le h.2 (Nat.pow_le_pow_right (by decide) hk)⟩
theorem abs_mul' {a b : Int} {j k : Nat} (ha : a.natAbs < 10 ^ j) (hb : b.natAbs < 10 ^ k) : (a * b).natAbs < 10 ^ (j + k) := by
  rw [Int.natAbs_mul, Nat.pow_add]
  exact Nat.mul_lt_mul_of_lt_of_le ha (Nat.le_of_lt hb) (Nat.pow_pos (by decide))
theorem abs_mulP {a : Int} {j p : Nat} (ha : a.natAbs < 10 ^ j) : (a * 10 ^ p).natAbs < 10 ^ (j + p) := by
  rw [Int.natAbs_mul, Nat.pow_add]
  have : ((10 : Int) ^ p).natAbs = 10 ^ p := by rw [Int.natAbs_pow]; rfl
  rw [this]
  exact Nat.mul_lt_mul_of_pos_right ha (Nat.pow_pos (by decide))
theorem fits_pow {z : Int} {j : Nat} (h : z.natAbs < 10 ^ j) (hj : j ≤ 200) : Fits z := Nat.lt_of_lt_of_le h (Nat.pow_le_pow_right (by decide) hj)
theorem Sz.neg {j k : Nat} {r : Rat} (h : Sz j k r) : Sz j k (-r) := ⟨by rw [Rat.neg_num, Int.natAbs_neg]; exact h.1, h.2⟩
theorem downI_lt {r : Rat} {p j k : Nat} (h : Sz j k r) : (downI r p).natAbs < 10 ^ (j + p) := Nat.lt_of_le_of_lt (Int.natAbs_ediv_le_natAbs _ _) (abs_mulP h.1)
theorem upI_lt {r : Rat} {p j k : Nat} (h : Sz j k r) : (upI r p).natAbs < 10 ^ (j + p + 1) := by
  have h1 := downI_lt (p := p) h
  rw [Nat.pow_succ]
  have h2 : 0 < 10 ^ (j + p) := Nat.pow_pos (by decide)
  rcases upI_spec r p with ⟨_, e, _⟩ | ⟨_, e, _, _⟩ <;> rw [e] <;> omega
theorem ten_abs (p : Nat) : ((10 : Int) ^ p).natAbs = 10 ^ p := by rw [Int.natAbs_pow]; rfl
theorem Sz.grid {z : Int} {j : Nat} (p : Nat) (h : z.natAbs < 10 ^ j) : Sz j (p + 1) (Rat.divInt z (10 ^ p)) := by
  refine ⟨Nat.lt_of_le_of_lt (red_num (pow_posI p)) h, Nat.lt_of_le_of_lt (red_den (pow_posI p)) ?_⟩
  rw [ten_abs, Nat.pow_succ]
  have h2 : 0 < 10 ^ p := Nat.pow_pos (by decide)
  omega
theorem Sz.dn {r : Rat} {j k : Nat} (p : Nat) (h : Sz j k r) : Sz (j + p) (p + 1) (dnR r p) := Sz.grid p (downI_lt h)
theorem Sz.up {r : Rat} {j k : Nat} (p : Nat) (h : Sz j k r) : Sz (j + p + 1) (p + 1) (upR r p) := Sz.grid p (upI_lt h)
theorem ok_down {r : Rat} {p j k : Nat} (h : Sz j k r) (hp : p ≤ 30) (hj : j + p ≤ 200) : okDown r p := ⟨hp, fits_pow (abs_mulP h.1) hj⟩
theorem ok_up {r : Rat} {p j k : Nat} (h : Sz j k r) (hp : p ≤ 30) (hj : j + p + 1 ≤ 200) : okUp r p := ⟨ok_down h hp (by omega), fits_pow (upI_lt h) hj⟩
theorem downQ_ok {r : Rat} {p : Nat} (h : okDown r p) : downQ (some r) p = some (dnR r p) := by
  show (if _ then _ else _) = _
  rw [if_pos ⟨by omega, by simpa using h⟩]; simp [dnR]
theorem upQ_ok {r : Rat} {p : Nat} (h : okUp r p) : upQ (some r) p = some (upR r p) := by
  show (if _ then _ else _) = _
  rw [if_pos ⟨by omega, by simpa using h⟩]; simp [upR]
theorem minus_ok {r : Rat} (h : FitsQ r) : subQ (some 0) (some r) = some (-r) := by
  have h1 : okSub 0 r := by
    refine ⟨?_, ?_, ?_, ?_⟩
    · show Fits (0 * (r.den : Int)); rw [Int.zero_mul]; decide
    · show Fits (r.num * (1 : Nat)); rw [show ((1 : Nat) : Int) = 1 from rfl, Int.mul_one]; exact h.1
    · show Fits (((1 : Nat) : Int) * r.den); rw [show ((1 : Nat) : Int) = 1 from rfl, Int.one_mul]; exact h.2
    · show Fits (0 * (r.den : Int) - r.num * (1 : Nat)); rw [show ((1 : Nat) : Int) = 1 from rfl, Int.mul_one, Int.zero_mul, Int.zero_sub]; unfold Fits; rw [Int.natAbs_neg]; exact h.1
  rw [subQ, lift2_ok h1, Rat.sub_eq_add_neg, Rat.zero_add]
theorem FitsQ.neg {r : Rat} (h : FitsQ r) : FitsQ (-r) := ⟨by unfold Fits; rw [Rat.neg_num, Int.natAbs_neg]; exact h.1, h.2⟩
theorem mulQ_grid {r : Rat} {p j k : Nat} (h : Sz j k r) (hj : j + p ≤ 200) (hk : k ≤ 200) : mulQ (some r) (some ((10 ^ p : Int) : Rat)) = some (r * ((10 ^ p : Int) : Rat)) := by
  refine lift2_ok ⟨?_, ?_⟩
  · exact fits_pow (abs_mulP h.1) hj
  · show Fits ((r.den : Int) * (1 : Nat)); rw [show ((1 : Nat) : Int) = 1 from rfl, Int.mul_one]; exact fits_pow h.2 hk
theorem subQ_sz {a b : Rat} {j k : Nat} (ha : Sz j k a) (hb : Sz j k b) (h1 : j + k + 1 ≤ 200) (h2 : k + k ≤ 200) : subQ (some a) (some b) = some (a - b) := by
  have e1 := abs_mul' ha.1 hb.2
  have e2 := abs_mul' hb.1 ha.2
  have e3 := abs_mul' ha.2 hb.2
  refine lift2_ok ⟨fits_pow e1 (by omega), fits_pow e2 (by omega), fits_pow e3 h2, ?_⟩
  refine fits_pow (j := j + k + 1) ?_ h1
  rw [Nat.pow_succ]; omega
theorem addQ_sz {a b : Rat} {j k : Nat} (ha : Sz j k a) (hb : Sz j k b) (h1 : j + k + 1 ≤ 200) (h2 : k + k ≤ 200) : addQ (some a) (some b) = some (a + b) := by
  have e1 := abs_mul' ha.1 hb.2
  have e2 := abs_mul' hb.1 ha.2
  have e3 := abs_mul' ha.2 hb.2
  refine lift2_ok ⟨fits_pow e1 (by omega), fits_pow e2 (by omega), fits_pow e3 h2, ?_⟩
  refine fits_pow (j := j + k + 1) ?_ h1
  rw [Nat.pow_succ]; omega
theorem mulQ_sz {a b : Rat} {j k : Nat} (ha : Sz j k a) (hb : Sz j k b) (h1 : j + j ≤ 200) (h2 : k + k ≤ 200) : mulQ (some a) (some b) = some (a * b) :=
  lift2_ok ⟨fits_pow (abs_mul' ha.1 hb.1) h1, fits_pow (abs_mul' ha.2 hb.2) h2⟩
end Putlog
/- RatFrac: Plain mathematics of layer 4: two texts and the fraction that they are. Nothing of the program. -/
namespace Putlog

/-- The integer that a text is. -/
def readI (s : ByteArray) : Option Int := if validT s.data.toList then some (intV s.data.toList) else none
theorem intB_toList (z : Int) : (intB z).data.toList = intT z := List.toList_toArray
theorem readI_int {z : Int} (h : Fits z) : readI (intB z) = some z := by
  unfold readI
  rw [intB_toList, if_pos ((validT_int z).2 h), intT_val]
theorem readI_some {s : ByteArray} {z : Int} (h : readI s = some z) : s = intB z ∧ Fits z := by
  unfold readI at h
  split at h
  · rename_i hv
    obtain ⟨y, h1, h2⟩ := validT_some hv
    rw [h1, intT_val] at h
    cases h
    exact ⟨by show s = ⟨(intT z).toArray⟩; rw [← h1], h2⟩
  · cases h
theorem readI_none {s : ByteArray} (h : validT s.data.toList = false) : readI s = none := by unfold readI; rw [h]; rfl
theorem readI_cases (s : ByteArray) : (∃ z, s = intB z ∧ Fits z ∧ readI s = some z) ∨ (validT s.data.toList = false ∧ readI s = none) := by
  cases h : readI s with
  | some z => obtain ⟨h1, h2⟩ := readI_some h; exact .inl ⟨z, h1, h2, rfl⟩
  | none =>
    refine .inr ⟨?_, rfl⟩
    cases hv : validT s.data.toList with
    | false => rfl
    | true => rw [readI, if_pos hv] at h; cases h
/-- The fraction that two texts are. -/
def readQ (n d : ByteArray) : Option Rat :=
  match readI n, readI d with
  | some a, some b => if 0 < b ∧ Int.gcd a b = 1 then some (Rat.divInt a b) else none
  | _, _ => none
theorem readQ_ints {a b : Int} (ha : Fits a) (hb : Fits b) : readQ (intB a) (intB b) = if 0 < b ∧ Int.gcd a b = 1 then some (Rat.divInt a b) else none := by
  unfold readQ; rw [readI_int ha, readI_int hb]
theorem readQ_no1 {n d : ByteArray} (h : readI n = none) : readQ n d = none := by unfold readQ; rw [h]
theorem readQ_no2 {n d : ByteArray} (h : readI d = none) : readQ n d = none := by unfold readQ; rw [h]; cases readI n <;> rfl
theorem divInt_parts {a b : Int} (hb : 0 < b) (h : Int.gcd a b = 1) : (Rat.divInt a b).num = a ∧ ((Rat.divInt a b).den : Int) = b := by
  obtain ⟨h1, h2⟩ := red_pos (n := a) hb
  rw [h1, h2, h]
  exact ⟨by omega, by omega⟩
theorem gcd_rat (q : Rat) : Int.gcd q.num q.den = 1 := by
  have h := q.reduced
  show Nat.gcd q.num.natAbs (q.den : Int).natAbs = 1
  rw [Int.natAbs_natCast]; exact h
theorem readQ_rat {q : Rat} (h : FitsQ q) : readQ (intB q.num) (intB q.den) = some q := by
  rw [readQ_ints h.1 h.2, if_pos ⟨den_posI q, gcd_rat q⟩, Rat.num_divInt_den]
theorem readQ_some {n d : ByteArray} {q : Rat} (h : readQ n d = some q) : n = intB q.num ∧ d = intB q.den ∧ FitsQ q := by
  unfold readQ at h
  split at h
  · rename_i a b ha hb
    split at h
    · rename_i hc
      cases h
      obtain ⟨rfl, fa⟩ := readI_some ha
      obtain ⟨rfl, fb⟩ := readI_some hb
      obtain ⟨h1, h2⟩ := divInt_parts hc.1 hc.2
      exact ⟨by rw [h1], by rw [h2], by show Fits _ ∧ Fits _; rw [h1, h2]; exact ⟨fa, fb⟩⟩
    · cases h
  · cases h
/-- The texts of what an operation answers. -/
def numB : Option Rat → ByteArray
  | some q => intB q.num
  | none => ⟨#[]⟩
def denB : Option Rat → ByteArray
  | some q => intB q.den
  | none => ⟨#[]⟩
def errQ : Option Rat → Int
  | some _ => 0
  | none => 40
theorem readI_empty : readI ⟨#[]⟩ = none := readI_none (by decide)
theorem readQ_parts {o : Option Rat} (h : FitsO o) : readQ (numB o) (denB o) = o := by
  cases o with
  | some q => exact readQ_rat h
  | none => exact readQ_no1 readI_empty
theorem readQ_fits (n d : ByteArray) : FitsO (readQ n d) := by
  cases h : readQ n d with
  | none => trivial
  | some q => exact (readQ_some h).2.2
theorem readQ_isSome {n d : ByteArray} : readQ n d = none ∨ ∃ q, readQ n d = some q ∧ n = intB q.num ∧ d = intB q.den ∧ FitsQ q := by
  cases h : readQ n d with
  | none => exact .inl rfl
  | some q => obtain ⟨h1, h2, h3⟩ := readQ_some h; exact .inr ⟨q, rfl, h1, h2, h3⟩
/-- What Make answers of two integers. -/
def makeQ (n d : Option Int) : Option Rat :=
  match n, d with
  | some a, some b => if b = 0 then none else some (Rat.divInt a b)
  | _, _ => none
theorem makeQ_ok {a b : Int} (h : b ≠ 0) : makeQ (some a) (some b) = some (Rat.divInt a b) := if_neg h
theorem makeQ_zero {n : Option Int} : makeQ n (some 0) = none := by cases n <;> rfl
theorem makeQ_no1 {d : Option Int} : makeQ none d = none := rfl
theorem makeQ_no2 {n : Option Int} : makeQ n none = none := by cases n <;> rfl
theorem fitsO_make {a b : Int} (ha : Fits a) (hb : Fits b) : FitsO (makeQ (some a) (some b)) := by
  by_cases h : b = 0
  · rw [h, makeQ_zero]; trivial
  · rw [makeQ_ok h]; exact red_fits ha hb h
/-- Sums, products as Make's answers. -/
def addM (a b : Option Rat) : Option Rat := addQ a b
theorem add_make {a b : Rat} : okAdd a b → addQ (some a) (some b) = makeQ (some (a.num * b.den + b.num * a.den)) (some (a.den * b.den)) := fun h => by
  rw [makeQ_ok (Int.ne_of_gt (Int.mul_pos (den_posI a) (den_posI b))), ← add_red]; exact lift2_ok h
theorem sub_make {a b : Rat} : okSub a b → subQ (some a) (some b) = makeQ (some (a.num * b.den - b.num * a.den)) (some (a.den * b.den)) := fun h => by
  rw [makeQ_ok (Int.ne_of_gt (Int.mul_pos (den_posI a) (den_posI b))), ← sub_red]; exact lift2_ok h
theorem mul_make {a b : Rat} : okMul a b → mulQ (some a) (some b) = makeQ (some (a.num * b.num)) (some (a.den * b.den)) := fun h => by
  rw [makeQ_ok (Int.ne_of_gt (Int.mul_pos (den_posI a) (den_posI b))), ← mul_red]; exact lift2_ok h
theorem div_make {a b : Rat} (h1 : Fits (a.num * b.den)) (h2 : Fits (a.den * b.num)) : divQ (some a) (some b) = makeQ (some (a.num * b.den)) (some (a.den * b.num)) := by
  by_cases h : b = 0
  · subst h
    rw [show (a.den : Int) * (0 : Rat).num = 0 from Int.mul_zero _, makeQ_zero]
    exact lift2_no (fun k => k.1 rfl)
  · rw [makeQ_ok (Int.mul_ne_zero (Int.ne_of_gt (den_posI a)) (num_ne h)), ← div_red]
    exact lift2_ok ⟨h, h1, h2⟩
/-- The reduced parts. -/
theorem red_parts {n d : Int} (hd : 0 < d) : (Rat.divInt n d).num = n / (Int.gcd n d : Nat) ∧ ((Rat.divInt n d).den : Int) = d / (Int.gcd n d : Nat) := red_pos hd
theorem divInt_neg_neg (n d : Int) : Rat.divInt (0 - n) (0 - d) = Rat.divInt n d := by rw [Int.zero_sub, Int.zero_sub, Rat.neg_divInt_neg]
theorem fits_neg {z : Int} (h : Fits z) : Fits (0 - z) := by unfold Fits at *; rw [Int.zero_sub, Int.natAbs_neg]; exact h
/-- Its text. -/
def printQ : Option Rat → ByteArray
  | some q => if q.den = 1 then intB q.num else intB q.num ++ ⟨#[47]⟩ ++ intB q.den
  | none => ⟨#[]⟩
end Putlog
/- RatStr: Integer's functions, whatever the two texts. -/
namespace Go.Proofs.YtelckldddflmmaaGreatDoor
open Go.RowKit Putlog

def Sized (x : ByteArray) : Prop := (x.size : Int) ≤ 9223372036854775807
theorem sized_int {z : Int} (h : z.natAbs < 10000 ^ 250) : Sized (intB z) := by have := intB_small h; unfold Sized; omega
theorem sized_fits {z : Int} (h : Fits z) : Sized (intB z) := sized_int (fits250 h)
theorem sized_nil : Sized ⟨#[]⟩ := by unfold Sized; decide
/-- An operation on the integers that two texts are. -/
def op2 (f : Int → Int → ByteArray × Int) (x y : ByteArray) : ByteArray × Int :=
  match readI x, readI y with
  | some a, some b => f a b
  | _, _ => (⟨#[]⟩, 30)
theorem op2_ints {f : Int → Int → ByteArray × Int} {a b : Int} (ha : Fits a) (hb : Fits b) : op2 f (intB a) (intB b) = f a b := by unfold op2; rw [readI_int ha, readI_int hb]
def addF (a b : Int) : ByteArray × Int := (okS (a + b), okE (a + b))
def subF (a b : Int) : ByteArray × Int := (okS (a - b), okE (a - b))
def mulF (a b : Int) : ByteArray × Int := (okS (a * b), okE (a * b))
def gcdF (a b : Int) : ByteArray × Int := (intB (Int.gcd a b : Nat), 0)
def quoF (a b : Int) : ByteArray × Int := if b = 0 then (⟨#[]⟩, 30) else (intB (a / b), 0)
def cmpS (x y : ByteArray) : Int :=
  match readI x, readI y with
  | some a, some b => cmpI a b
  | _, _ => 0
theorem cmpS_ints {a b : Int} (ha : Fits a) (hb : Fits b) : cmpS (intB a) (intB b) = cmpI a b := by unfold cmpS; rw [readI_int ha, readI_int hb]
def divS (x y : ByteArray) : ByteArray × ByteArray × Int :=
  match readI x, readI y with
  | some a, some b => if b = 0 then (⟨#[]⟩, ⟨#[]⟩, 30) else (intB (a / b), intB (a % b), 0)
  | _, _ => (⟨#[]⟩, ⟨#[]⟩, 30)
theorem divS_ints {a b : Int} (ha : Fits a) (hb : Fits b) (h : b ≠ 0) : divS (intB a) (intB b) = (intB (a / b), intB (a % b), 0) := by unfold divS; rw [readI_int ha, readI_int hb]; exact if_neg h
theorem sized_okS (z : Int) : Sized (okS z) := by
  unfold okS; split
  · rename_i h; exact sized_fits h
  · exact sized_nil
theorem str_cases (s t : ByteArray) (hs : Sized s) (ht : Sized t) :
    (∃ x y, s = intB x ∧ t = intB y ∧ Fits x ∧ Fits y) ∨ ((readI s = none ∨ readI t = none) ∧ ∀ w, Calls Tryz.prog 68 #[.string s, .string t] w fun e w' => e = .returned (.tuple #[.agg #[.bool false, .slice none 0 0], .agg #[.bool false, .slice none 0 0], .bool false]) ∧ Below w.heap.size w w') := by
  rcases both_cases s t hs ht with h | ⟨h1, h2⟩
  · exact .inl h
  · refine .inr ⟨?_, h2⟩
    rcases Bool.and_eq_false_iff.1 h1 with h | h
    · exact .inl (readI_none h)
    · exact .inr (readI_none h)
theorem op2_no {f : Int → Int → ByteArray × Int} {s t : ByteArray} (h : readI s = none ∨ readI t = none) : op2 f s t = (⟨#[]⟩, 30) := by
  unfold op2
  rcases h with h | h <;> rw [h]
  cases readI s <;> rfl
theorem cmpS_no {s t : ByteArray} (h : readI s = none ∨ readI t = none) : cmpS s t = 0 := by
  unfold cmpS
  rcases h with h | h <;> rw [h]
  cases readI s <;> rfl
theorem divS_no {s t : ByteArray} (h : readI s = none ∨ readI t = none) : divS s t = (⟨#[]⟩, ⟨#[]⟩, 30) := by
  unfold divS
  rcases h with h | h <;> rw [h]
  cases readI s <;> rfl
/-- What a function on two texts answers, whatever they are. -/
def Op2 (h : Nat) (F : ByteArray → ByteArray → ByteArray × Int) : Prop :=
  (∀ args w, (callFunc h args).run Tryz.prog w = .ok (.enter h args) w) ∧ (∀ x y, Sized x → Sized y → Sized (F x y).1) ∧
  ∀ (x y : ByteArray) (w : World), Sized x → Sized y → Calls Tryz.prog h #[.string x, .string y] w (GivesInt (F x y).1 (F x y).2 w)
theorem sized_op2 {f : Int → Int → ByteArray × Int} (h : ∀ a b, Fits a → Fits b → Sized (f a b).1) (x y : ByteArray) : Sized (op2 f x y).1 := by
  unfold op2
  split
  · rename_i a b h1 h2; exact h a b (readI_some h1).2 (readI_some h2).2
  · exact sized_nil
theorem op2_add : Op2 51 (op2 addF) := by
  refine ⟨enters_of Tryz.func51 (by kernel_rfl) rfl, fun x y _ _ => sized_op2 (fun a b _ _ => sized_okS _) x y, fun x y w hx hy => ?_⟩
  rcases str_cases x y hx hy with ⟨a, b, rfl, rfl, ha, hb⟩ | ⟨h1, h2⟩
  · rw [op2_ints ha hb]; exact add_ok a b ha hb w
  · rw [op2_no h1]; exact add_any _ _ _ _ w (comb_no _ _ _ w (h2 w))
theorem op2_sub : Op2 63 (op2 subF) := by
  refine ⟨enters_of Tryz.func63 (by kernel_rfl) rfl, fun x y _ _ => sized_op2 (fun a b _ _ => sized_okS _) x y, fun x y w hx hy => ?_⟩
  rcases str_cases x y hx hy with ⟨a, b, rfl, rfl, ha, hb⟩ | ⟨h1, h2⟩
  · rw [op2_ints ha hb]; exact sub_ok a b ha hb w
  · rw [op2_no h1]; exact sub_any _ _ _ _ w (comb_no _ _ _ w (h2 w))
theorem op2_mul : Op2 62 (op2 mulF) := by
  refine ⟨enters_of Tryz.func62 (by kernel_rfl) rfl, fun x y _ _ => sized_op2 (fun a b _ _ => sized_okS _) x y, fun x y w hx hy => ?_⟩
  rcases str_cases x y hx hy with ⟨a, b, rfl, rfl, ha, hb⟩ | ⟨h1, h2⟩
  · rw [op2_ints ha hb]; exact mul_ok a b ha hb w
  · rw [op2_no h1]; exact mul_any _ _ _ _ w (comb_no _ _ _ w (h2 w))
theorem op2_gcd : Op2 55 (op2 gcdF) := by
  refine ⟨enters_of Tryz.func55 (by kernel_rfl) rfl, fun x y _ _ => sized_op2 (fun a b ha hb => sized_fits (gcd_fits ha hb)) x y, fun x y w hx hy => ?_⟩
  rcases str_cases x y hx hy with ⟨a, b, rfl, rfl, ha, hb⟩ | ⟨h1, h2⟩
  · rw [op2_ints ha hb]; exact gcd_ok a b ha hb w
  · rw [op2_no h1]; exact gcd_call _ _ _ _ w (comb_no _ _ _ w (h2 w))
theorem cmp_str (x y : ByteArray) (w : World) (hx : Sized x) (hy : Sized y) : Calls Tryz.prog 43 #[.string x, .string y] w fun e w' => e = .returned (.int .i64 (cmpS x y)) ∧ Below w.heap.size w w' := by
  rcases str_cases x y hx hy with ⟨a, b, rfl, rfl, ha, hb⟩ | ⟨h1, h2⟩
  · rw [cmpS_ints ha hb]; exact cmp_ok a b ha hb w
  · rw [cmpS_no h1]; exact cmp_no _ _ w (h2 w)
theorem div_str (x y : ByteArray) (w : World) (hx : Sized x) (hy : Sized y) :
    Calls Tryz.prog 42 #[.string x, .string y] w fun e w' => e = .returned (.tuple #[.string (divS x y).1, .string (divS x y).2.1, .int .i64 (divS x y).2.2]) ∧ Below w.heap.size w w' := by
  rcases str_cases x y hx hy with ⟨a, b, rfl, rfl, ha, hb⟩ | ⟨h1, h2⟩
  · by_cases h0 : b = 0
    · subst h0
      have : divS (intB a) (intB 0) = (⟨#[]⟩, ⟨#[]⟩, 30) := by unfold divS; rw [readI_int ha, readI_int hb]; rfl
      rw [this]; exact div_zero a ha w
    · rw [divS_ints ha hb h0]; exact div_ok a b ha hb h0 w
  · rw [divS_no h1]; exact div_no _ _ w (h2 w)
theorem sized_divS (x y : ByteArray) : Sized (divS x y).1 ∧ Sized (divS x y).2.1 := by
  unfold divS
  split
  · rename_i a b h1 h2
    split
    · exact ⟨sized_nil, sized_nil⟩
    · rename_i h0
      refine ⟨sized_fits (Nat.lt_of_le_of_lt (Int.natAbs_ediv_le_natAbs a b) (readI_some h1).2), sized_fits ?_⟩
      have h3 := (readI_some h2).2
      obtain ⟨_, e2, e3⟩ := ediv_spec a b h0
      unfold Fits at *; omega
  · exact ⟨sized_nil, sized_nil⟩
theorem quo_of_div (x y : ByteArray) : op2 quoF x y = ((divS x y).1, (divS x y).2.2) := by
  unfold op2 divS
  cases readI x with
  | none => rfl
  | some a =>
    cases readI y with
    | none => rfl
    | some b =>
      show (if b = 0 then _ else _) = ((if b = 0 then _ else _ : ByteArray × ByteArray × Int).1, (if b = 0 then _ else _ : ByteArray × ByteArray × Int).2.2)
      by_cases h : b = 0
      · rw [if_pos h, if_pos h]
      · rw [if_neg h, if_neg h]
set_option maxRecDepth 100000 in
set_option maxHeartbeats 2000000 in
theorem quo_str (x y : ByteArray) (w : World) (hx : Sized x) (hy : Sized y) : Calls Tryz.prog 111 #[.string x, .string y] w (GivesInt (op2 quoF x y).1 (op2 quoF x y).2 w) := by
  have HD := Lib.hid (div_str x y w hx hy)
  have h1 : (op2 quoF x y).1 = (divS x y).1 := by rw [quo_of_div]
  have h2 : (op2 quoF x y).2 = (divS x y).2.2 := by rw [quo_of_div]
  rw [h1, h2]
  generalize (divS x y).1 = q at *
  generalize (divS x y).2.1 = r at *
  generalize (divS x y).2.2 = k at *
  clear h1 h2 hx hy
  go_enter Tryz.func111, Tryz.ntmps111
  go_wp2_with fail
  refine HD.out.mono ?_
  rintro e w1 ⟨rfl, hB1⟩
  go_wp2_with fail
  go_ret2
  exact ⟨rfl, hB1⟩
theorem op2_quo : Op2 111 (op2 quoF) := by
  refine ⟨enters_of Tryz.func111 (by kernel_rfl) rfl, fun x y _ _ => sized_op2 (fun a b ha hb => ?_) x y, fun x y w hx hy => quo_str x y w hx hy⟩
  unfold quoF
  split
  · exact sized_nil
  · exact sized_fits (Nat.lt_of_le_of_lt (Int.natAbs_ediv_le_natAbs a b) ha)
def downF (x _y : ByteArray) : ByteArray × Int := (x, 0)
def upF (x y : ByteArray) : ByteArray × Int := if y = ⟨#[48]⟩ then (x, 0) else op2 addF x ⟨#[49]⟩
set_option maxRecDepth 100000 in
set_option maxHeartbeats 2000000 in
theorem op2_down : Op2 48 downF := by
  refine ⟨enters_of Tryz.func48 (by kernel_rfl) rfl, fun x y hx _ => hx, fun x y w hx hy => ?_⟩
  show Calls _ _ _ _ (GivesInt x 0 w)
  clear hx hy
  go_enter Tryz.func48, Tryz.ntmps48
  go_wp2_with fail
  go_ret2
  exact ⟨rfl, Below.refl _ _⟩
theorem str_eq (x y : ByteArray) : (x.toList == y.toList) = decide (x = y) := by
  by_cases h : x = y
  · subst h; simp
  · have : x.toList ≠ y.toList := fun e => h (by
      rw [ByteArray.toList_eq, ByteArray.toList_eq] at e
      cases x; cases y; congr 1; exact Array.toList_inj.1 e)
    simp [h, this]
theorem one_sized : Sized ⟨#[49]⟩ := by unfold Sized; decide
set_option maxRecDepth 100000 in
set_option maxHeartbeats 2000000 in
theorem op2_up : Op2 50 upF := by
  refine ⟨enters_of Tryz.func50 (by kernel_rfl) rfl, fun x y hx hy => ?_, fun x y w hx hy => ?_⟩
  · unfold upF; split
    · exact hx
    · exact sized_op2 (fun a b _ _ => sized_okS _) x _
  · have HA := Lib.hid (op2_add.2.2 x ⟨#[49]⟩ w hx one_sized)
    have he := str_eq y ⟨#[48]⟩
    rw [show (⟨#[48]⟩ : ByteArray).toList = [48] by decide +kernel] at he
    unfold upF
    by_cases h : y = ⟨#[48]⟩
    · rw [if_pos h]
      rw [decide_eq_true h] at he
      show Calls _ _ _ _ (GivesInt x 0 w)
      clear hx hy h HA
      go_enter Tryz.func50, Tryz.ntmps50
      go_wp2_with fail
      go_ret2
      exact ⟨rfl, Below.refl _ _⟩
    · rw [if_neg h]
      rw [decide_eq_false h] at he
      generalize (op2 addF x ⟨#[49]⟩).1 = z at *
      generalize (op2 addF x ⟨#[49]⟩).2 = k at *
      clear hx hy h
      go_enter Tryz.func50, Tryz.ntmps50
      go_wp2_with fail
      refine HA.out.mono ?_
      rintro e w1 ⟨rfl, hB1⟩
      go_wp2_with fail
      go_ret2
      exact ⟨rfl, hB1⟩
end Go.Proofs.YtelckldddflmmaaGreatDoor
/- RatStep: Steps: functions that a call makes and runs, which read and write variables of its own. -/
namespace Go.Proofs.YtelckldddflmmaaGreatDoor
open Go.RowKit Putlog

def upd (s : Nat → ByteArray) (p : Nat) (x : ByteArray) : Nat → ByteArray := fun q => if q = p then x else s q
theorem upd_same (s : Nat → ByteArray) (p : Nat) (x : ByteArray) : upd s p x p = x := if_pos rfl
theorem upd_other (s : Nat → ByteArray) {p q : Nat} (x : ByteArray) (h : q ≠ p) : upd s p x q = s q := if_neg h
/-- The variables: blocks of one text each. -/
structure VarsAt (V : List Nat) (s : Nat → ByteArray) (W : World) : Prop where
  cell : ∀ p, p ∈ V → W.heap[p]? = some (.cells #[.string (s p)] 9 (0, 0))
  sized : ∀ p, p ∈ V → Sized (s p)
/-- Everything but the variables stays. -/
structure KeptV (V : List Nat) (K W : World) : Prop where
  os : W.os = K.os
  tape : W.tape = K.tape
  output : W.output = K.output
  size : K.heap.size ≤ W.heap.size
  block : ∀ k, k < K.heap.size → k ∉ V → W.heap[k]? = K.heap[k]?
theorem KeptV.refl (V : List Nat) (W : World) : KeptV V W W := ⟨rfl, rfl, rfl, Nat.le_refl _, fun _ _ _ => rfl⟩
theorem KeptV.trans {V : List Nat} {A B C : World} (h : KeptV V A B) (k : KeptV V B C) : KeptV V A C :=
  ⟨k.os.trans h.os, k.tape.trans h.tape, k.output.trans h.output, Nat.le_trans h.size k.size, fun i hi hv => (k.block i (Nat.lt_of_lt_of_le hi h.size) hv).trans (h.block i hi hv)⟩
theorem KeptV.of_below {V : List Nat} {A B : World} (h : Below A.heap.size A B) : KeptV V A B := ⟨h.os, h.tape, h.output, h.size, fun k hk _ => h.block k hk⟩
theorem KeptV.mono {V V' : List Nat} {A B : World} (h : KeptV V A B) (hv : ∀ p, p ∈ V → p ∈ V') : KeptV V' A B := ⟨h.os, h.tape, h.output, h.size, fun k hk hn => h.block k hk (fun e => hn (hv k e))⟩
theorem KeptV.drop {V : List Nat} {c : Nat} {A B : World} (h : KeptV (c :: V) A B) (hc : A.heap.size ≤ c) : KeptV V A B :=
  ⟨h.os, h.tape, h.output, h.size, fun k hk hn => h.block k hk (fun e => (List.mem_cons.1 e).elim (fun e => by omega) hn)⟩
theorem KeptV.below {V : List Nat} {w A B : World} {base : Nat} (h : KeptV V A B) (hb : Below base w A) (hs : base ≤ A.heap.size) (hv : ∀ p, p ∈ V → base ≤ p) : Below base w B :=
  ⟨h.os.trans hb.os, h.tape.trans hb.tape, h.output.trans hb.output, Nat.le_trans hb.size h.size, fun k hk => (h.block k (Nat.lt_of_lt_of_le hk hs) (fun e => by have := hv k e; omega)).trans (hb.block k hk)⟩
theorem KeptV.drew {V : List Nat} {A B : World} (h : KeptV V A B) (n : Nat) : KeptV V A (B.drewN n) := ⟨h.os, h.tape, h.output, h.size, h.block⟩
theorem VarsAt.via {V : List Nat} {s : Nat → ByteArray} {W W' : World} (h : VarsAt V s W) (hB : Below W.heap.size W W') : VarsAt V s W' := ⟨fun p hp => heap_below hB (h.cell p hp), h.sized⟩
theorem VarsAt.lt {V : List Nat} {s : Nat → ByteArray} {W : World} (h : VarsAt V s W) {p : Nat} (hp : p ∈ V) : p < W.heap.size := (Array.getElem?_eq_some_iff.1 (h.cell p hp)).1
theorem cell_one {W : World} {p : Nat} {v : Value} {t : TypeId} (h : W.heap[p]? = some (.cells #[v] t (0, 0))) : W.cell? ⟨p, 0, none⟩ = some v ∧ W.frozen? ⟨p, 0, none⟩ = false :=
  ⟨(cell_of_row W p 0 _ _ _ h).trans rfl, frozen_of_row W p 0 _ _ h⟩
theorem cell2 {W : World} {p : Nat} {x y : Value} {t : TypeId} (h : W.heap[p]? = some (.cells #[x, y] t (0, 0))) : W.cell? ⟨p, 0, none⟩ = some x ∧ W.frozen? ⟨p, 0, none⟩ = false := ⟨(cell_of_row W p 0 _ _ _ h).trans rfl, frozen_of_row W p 0 _ _ h⟩
theorem cell2b {W : World} {p : Nat} {x y : Value} {t : TypeId} (h : W.heap[p]? = some (.cells #[x, y] t (0, 0))) : W.cell? ⟨p, 1, none⟩ = some y ∧ W.frozen? ⟨p, 1, none⟩ = false := ⟨(cell_of_row W p 1 _ _ _ h).trans rfl, frozen_of_row W p 1 _ _ h⟩
theorem KeptV.cell {V : List Nat} {A B : World} (h : KeptV V A B) {p i : Nat} {v : Value} (hc : A.cell? ⟨p, i, none⟩ = some v) (hp : p ∉ V) : B.cell? ⟨p, i, none⟩ = some v := by
  have := h.block p (lt_of_cell hc) hp
  rw [← hc]; simp only [World.cell?, this]
theorem KeptV.heap {V : List Nat} {A B : World} (h : KeptV V A B) {p : Nat} {o : Obj} (hc : A.heap[p]? = some o) (hp : p ∉ V) : B.heap[p]? = some o := (h.block p (Array.getElem?_eq_some_iff.1 hc).1 hp).trans hc
/-- A variable written. -/
theorem VarsAt.set {V : List Nat} {s : Nat → ByteArray} {W : World} (h : VarsAt V s W) {p : Nat} (hp : p ∈ V) {x : ByteArray} (hx : Sized x) : VarsAt V (upd s p x) (W.setCell ⟨p, 0, none⟩ (.string x)) := by
  refine ⟨fun q hq => ?_, fun q hq => ?_⟩
  · by_cases e : q = p
    · subst e
      rw [upd_same]
      exact heap_setCell_same W _ 0 _ _ (.string x) (h.cell q hq)
    · rw [upd_other _ _ e, heap_setCell_other _ _ _ _ e]
      exact h.cell q hq
  · by_cases e : q = p
    · subst e; rw [upd_same]; exact hx
    · rw [upd_other _ _ e]; exact h.sized q hq
theorem KeptV.set {V : List Nat} {A B : World} (h : KeptV V A B) {p i : Nat} (hp : p ∈ V) (v : Value) : KeptV V A (B.setCell ⟨p, i, none⟩ v) :=
  ⟨h.os, h.tape, h.output, by rw [World.size_setCell]; exact h.size, fun k hk hn => (heap_setCell_other B ⟨p, i, none⟩ k v (fun e => hn (by rw [show k = p from e]; exact hp))).trans (h.block k hk hn)⟩
theorem cell_rowN (w : World) (cs : Array Value) (t : TypeId) (i : Nat) {v : Value} (h : cs[i]? = some v) : (w.alloc (.cells cs t)).cell? ⟨w.heap.size, i, none⟩ = some v := (cell_of_row _ w.heap.size i _ _ _ (heap_alloc_new w _)).trans h
theorem cell_row2 (w : World) (x y : Value) (t : TypeId) : (w.alloc (.cells #[x, y] t)).cell? ⟨w.heap.size, 0, none⟩ = some x ∧ (w.alloc (.cells #[x, y] t)).cell? ⟨w.heap.size, 1, none⟩ = some y ∧ Below w.heap.size w (w.alloc (.cells #[x, y] t)) :=
  ⟨(cell_of_row _ w.heap.size 0 _ _ _ (heap_alloc_new w _)).trans rfl, (cell_of_row _ w.heap.size 1 _ _ _ (heap_alloc_new w _)).trans rfl, alloc_below _ _⟩
/-- A step: what it does to the variables, and its error. -/
def Step (V : List Nat) (K : World) (v : Value) (t : (Nat → ByteArray) → (Nat → ByteArray) × Int) : Prop :=
  (∀ s p, p ∉ V → (t s).1 p = s p) ∧
  ∃ g caps, v = .func (.func g) #[] caps ∧ (∀ args w, (callFunc g args).run Tryz.prog w = .ok (.enter g args) w) ∧
    ∀ s W, KeptV V K W → VarsAt V s W → Calls Tryz.prog g caps W fun e W' => e = .returned (.int .i64 (t s).2) ∧ KeptV V W W' ∧ VarsAt V (t s).1 W'
theorem Step.via {V : List Nat} {K K' : World} {v : Value} {t : (Nat → ByteArray) → (Nat → ByteArray) × Int} (h : Step V K v t) (hB : Below K.heap.size K K') : Step V K' v t := by
  obtain ⟨hl, g, caps, e1, e2, e3⟩ := h
  exact ⟨hl, g, caps, e1, e2, fun s W hk hv => e3 s W ((KeptV.of_below hB).trans hk) hv⟩
theorem Step.form {V : List Nat} {K : World} {v : Value} {t : (Nat → ByteArray) → (Nat → ByteArray) × Int} (h : Step V K v t) : ∃ g caps, v = .func (.func g) #[] caps := by
  obtain ⟨_, g, caps, e, _⟩ := h
  exact ⟨g, caps, e⟩
/-- A variable more, made later. -/
theorem Step.more {V : List Nat} {K K' : World} {v : Value} {t : (Nat → ByteArray) → (Nat → ByteArray) × Int} {c : Nat} (h : Step V K v t) (hB : Below K.heap.size K K') (hc : K.heap.size ≤ c) (hn : c ∉ V) : Step (c :: V) K' v t := by
  obtain ⟨hl, g, caps, e1, e2, e3⟩ := h
  refine ⟨fun s p hp => hl s p (fun e => hp (List.mem_cons_of_mem _ e)), g, caps, e1, e2, fun s W hk hv => ?_⟩
  have hk' : KeptV V K W := KeptV.drop ((KeptV.of_below hB).trans hk) hc
  have hv' : VarsAt V s W := ⟨fun p hp => hv.cell p (List.mem_cons_of_mem _ hp), fun p hp => hv.sized p (List.mem_cons_of_mem _ hp)⟩
  refine (e3 s W hk' hv').mono ?_
  rintro e W' ⟨rfl, h1, h2⟩
  refine ⟨rfl, h1.mono (fun p hp => List.mem_cons_of_mem _ hp), fun p hp => ?_, fun p hp => ?_⟩
  · rcases List.mem_cons.1 hp with rfl | hp
    · rw [hl s p hn]; exact h1.heap (hv.cell p (List.mem_cons_self ..)) hn
    · exact h2.cell p hp
  · rcases List.mem_cons.1 hp with rfl | hp
    · rw [hl s p hn]; exact hv.sized p (List.mem_cons_self ..)
    · exact h2.sized p hp
/-- What is read at an address: a text that stays, or a variable's. -/
def Reads (V : List Nat) (K : World) (p i : Nat) (f : (Nat → ByteArray) → ByteArray) : Prop :=
  ∀ s W, KeptV V K W → VarsAt V s W → W.cell? ⟨p, i, none⟩ = some (.string (f s)) ∧ Sized (f s)
theorem Reads.var {V : List Nat} {K : World} {p : Nat} (hp : p ∈ V) : Reads V K p 0 (fun s => s p) := fun _ _ _ hv => ⟨(cell_one (hv.cell p hp)).1, hv.sized p hp⟩
theorem Reads.const {V : List Nat} {K : World} {p i : Nat} {x : ByteArray} (h : K.cell? ⟨p, i, none⟩ = some (.string x)) (hp : p ∉ V) (hx : Sized x) : Reads V K p i (fun _ => x) := fun _ _ hk _ => ⟨hk.cell h hp, hx⟩
theorem Reads.via {V : List Nat} {K K' : World} {p i : Nat} {f : (Nat → ByteArray) → ByteArray} (h : Reads V K p i f) (hB : Below K.heap.size K K') : Reads V K' p i f := fun s W hk hv => h s W ((KeptV.of_below hB).trans hk) hv

def setT (r : Nat) (F : ByteArray → ByteArray → ByteArray × Int) (fa fb : (Nat → ByteArray) → ByteArray) (s : Nat → ByteArray) : (Nat → ByteArray) × Int := (upd s r (F (fa s) (fb s)).1, (F (fa s) (fb s)).2)
/-- Two loads, under names of their own. -/
def ldA : Op := Op.load 9 (Operand.tmp 9)
def ldB : Op := Op.load 9 (Operand.tmp 12)
theorem frozenBelow {w w' : World} {b i : Nat} {v : Value} (h : Below w.heap.size w w') (hc : w.cell? ⟨b, i, none⟩ = some v) (hf : w.frozen? ⟨b, i, none⟩ = false) : w'.frozen? ⟨b, i, none⟩ = false := by
  have h3 := h.block b (lt_of_cell hc)
  rw [← hf]; simp only [World.frozen?, h3]
theorem cellOther {w : World} {g b i j : Nat} {v x : Value} (h : w.cell? ⟨b, i, none⟩ = some x) (hne : b ≠ g) : (w.setCell ⟨g, j, none⟩ v).cell? ⟨b, i, none⟩ = some x := by
  rw [World.cell?_setCell_other _ _ _ _ (fun e => hne (by have e2 := congrArg Addr.block e; dsimp only at e2; omega))]; exact h
set_option maxRecDepth 100000 in
set_option maxHeartbeats 4000000 in
theorem set1_any (h : Nat) (eg : ∀ args w, (callFunc h args).run Tryz.prog w = .ok (.enter h args) w) (x y z : ByteArray) (k : Int) (bo ba bb br pa ia pb ib r : Nat) (W : World)
    (hop : ∀ W, Calls Tryz.prog h #[.string x, .string y] W (GivesInt z k W))
    (ho : W.cell? ⟨bo, 0, none⟩ = some (.func (.func h) #[] #[])) (ha : W.cell? ⟨ba, 0, none⟩ = some (.pointer (some ⟨pa, ia, none⟩))) (hb : W.cell? ⟨bb, 0, none⟩ = some (.pointer (some ⟨pb, ib, none⟩))) (hr : W.cell? ⟨br, 0, none⟩ = some (.pointer (some ⟨r, 0, none⟩)))
    (hx : W.cell? ⟨pa, ia, none⟩ = some (.string x)) (hy : W.cell? ⟨pb, ib, none⟩ = some (.string y)) (v0 : Value) (hrc : W.cell? ⟨r, 0, none⟩ = some v0) (hrf : W.frozen? ⟨r, 0, none⟩ = false)
    (n1 : bo ≠ r) (n2 : ba ≠ r) (n3 : bb ≠ r) (n4 : br ≠ r) :
    Calls Tryz.prog 92 #[.pointer (some ⟨bo, 0, none⟩), .pointer (some ⟨ba, 0, none⟩), .pointer (some ⟨bb, 0, none⟩), .pointer (some ⟨br, 0, none⟩)] W fun e W' => e = .returned (.int .i64 k) ∧ ∃ W1, Below W.heap.size W W1 ∧ W' = W1.setCell ⟨r, 0, none⟩ (.string z) := by
  have HO := Lib.hid hop
  have hA : ldA = Op.load 9 (Operand.tmp 9) := rfl
  have hB : ldB = Op.load 9 (Operand.tmp 12) := rfl
  clear hop
  go_enter Tryz.func92, Tryz.ntmps92
  go_wp2_with fail
  rw [← hA, ← hB]
  go_region_held3 (fun w' => w'.cell? ⟨bo, 0, none⟩ = some (.func (.func h) #[] #[]) ∧ w'.cell? ⟨ba, 0, none⟩ = some (.pointer (some ⟨pa, ia, none⟩)) ∧ w'.cell? ⟨bb, 0, none⟩ = some (.pointer (some ⟨pb, ib, none⟩)) ∧ w'.cell? ⟨br, 0, none⟩ = some (.pointer (some ⟨r, 0, none⟩)))
    (first | exact ⟨ho, ha, hb, hr⟩ | exact ⟨keptBelow hB1 ho, keptBelow hB1 ha, keptBelow hB1 hb, keptBelow hB1 hr⟩ | exact ⟨cellOther (keptBelow hB1 ho) n1, cellOther (keptBelow hB1 ha) n2, cellOther (keptBelow hB1 hb) n3, cellOther (keptBelow hB1 hr) n4⟩) (first
    | ((with_reducible refine (HO.out _).mono ?_); rintro e w1 ⟨rfl, hB1⟩; have hrc1 := keptBelow hB1 hrc; have hrf1 := frozenBelow hB1 hrc hrf))
  all_goals
    go_wp2_with fail
    go_ret
    exact ⟨rfl, _, undrew hB1, rfl⟩
/-- The step that set makes. -/
theorem set1_step {V : List Nat} {K : World} {h : Nat} {F : ByteArray → ByteArray → ByteArray × Int} (hF : Op2 h F) {bo ba bb br pa ia pb ib r : Nat} {fa fb : (Nat → ByteArray) → ByteArray}
    (ho : K.cell? ⟨bo, 0, none⟩ = some (.func (.func h) #[] #[])) (ha : K.cell? ⟨ba, 0, none⟩ = some (.pointer (some ⟨pa, ia, none⟩))) (hb : K.cell? ⟨bb, 0, none⟩ = some (.pointer (some ⟨pb, ib, none⟩))) (hr : K.cell? ⟨br, 0, none⟩ = some (.pointer (some ⟨r, 0, none⟩)))
    (v1 : bo ∉ V) (v2 : ba ∉ V) (v3 : bb ∉ V) (v4 : br ∉ V) (hrV : r ∈ V) (ra : Reads V K pa ia fa) (rb : Reads V K pb ib fb) :
    Step V K (.func (.func 92) #[] #[.pointer (some ⟨bo, 0, none⟩), .pointer (some ⟨ba, 0, none⟩), .pointer (some ⟨bb, 0, none⟩), .pointer (some ⟨br, 0, none⟩)]) (setT r F fa fb) := by
  refine ⟨fun s p hp => upd_other _ _ (fun e => hp (by rw [e]; exact hrV)), _, _, rfl, enters_of Tryz.func92 (by kernel_rfl) rfl, fun s W hk hv => ?_⟩
  obtain ⟨hx, sx⟩ := ra s W hk hv
  obtain ⟨hy, sy⟩ := rb s W hk hv
  obtain ⟨hrc, hrf⟩ := cell_one (hv.cell r hrV)
  refine (set1_any h hF.1 (fa s) (fb s) (F (fa s) (fb s)).1 (F (fa s) (fb s)).2 bo ba bb br pa ia pb ib r W (fun W => hF.2.2 _ _ W sx sy) (hk.cell ho v1) (hk.cell ha v2) (hk.cell hb v3) (hk.cell hr v4) hx hy _ hrc hrf
    (fun e => v1 (by rw [e]; exact hrV)) (fun e => v2 (by rw [e]; exact hrV)) (fun e => v3 (by rw [e]; exact hrV)) (fun e => v4 (by rw [e]; exact hrV))).mono ?_
  rintro e W' ⟨rfl, W1, hB, rfl⟩
  exact ⟨rfl, (KeptV.of_below hB).set hrV _, (hv.via hB).set hrV (hF.2.1 _ _ sx sy)⟩
set_option maxRecDepth 100000 in
set_option maxHeartbeats 2000000 in
theorem set_call (r h pa ia pb ib : Nat) (W : World) :
    Calls Tryz.prog 61 #[.pointer (some ⟨r, 0, none⟩), .func (.func h) #[] #[], .pointer (some ⟨pa, ia, none⟩), .pointer (some ⟨pb, ib, none⟩)] W fun e W' => e = .returned (.func (.func 92) #[] #[.pointer (some ⟨W.heap.size + 1, 0, none⟩), .pointer (some ⟨W.heap.size + 1 + 1, 0, none⟩), .pointer (some ⟨W.heap.size + 1 + 1 + 1, 0, none⟩), .pointer (some ⟨W.heap.size, 0, none⟩)]) ∧
      ∃ t1 t2 t3 t4, W' = (((W.alloc (.cells #[.pointer (some ⟨r, 0, none⟩)] t1)).alloc (.cells #[.func (.func h) #[] #[]] t2)).alloc (.cells #[.pointer (some ⟨pa, ia, none⟩)] t3)).alloc (.cells #[.pointer (some ⟨pb, ib, none⟩)] t4) := by
  go_enter Tryz.func61, Tryz.ntmps61
  go_wp2_with fail
  go_ret
  exact ⟨rfl, _, _, _, _, rfl⟩
theorem boxed4 (W : World) (a b c d : Value) (t1 t2 t3 t4 : TypeId) :
    let W' := (((W.alloc (.cells #[a] t1)).alloc (.cells #[b] t2)).alloc (.cells #[c] t3)).alloc (.cells #[d] t4)
    Below W.heap.size W W' ∧ W'.cell? ⟨W.heap.size, 0, none⟩ = some a ∧ W'.cell? ⟨W.heap.size + 1, 0, none⟩ = some b ∧ W'.cell? ⟨W.heap.size + 1 + 1, 0, none⟩ = some c ∧ W'.cell? ⟨W.heap.size + 1 + 1 + 1, 0, none⟩ = some d := by
  have z1 := alloc_size W (.cells #[a] t1)
  have c1 := cell_box W a t1
  have b1 := alloc_below W (.cells #[a] t1)
  generalize W.alloc (.cells #[a] t1) = W1 at *
  have z2 := alloc_size W1 (.cells #[b] t2)
  have c2 := cell_box W1 b t2
  have b2 := alloc_below W1 (.cells #[b] t2)
  generalize W1.alloc (.cells #[b] t2) = W2 at *
  have z3 := alloc_size W2 (.cells #[c] t3)
  have c3 := cell_box W2 c t3
  have b3 := alloc_below W2 (.cells #[c] t3)
  generalize W2.alloc (.cells #[c] t3) = W3 at *
  have c4 := cell_box W3 d t4
  have b4 := alloc_below W3 (.cells #[d] t4)
  generalize W3.alloc (.cells #[d] t4) = W4 at *
  rw [z1] at c2; rw [z2, z1] at c3; rw [z3, z2, z1] at c4
  exact ⟨belowVia b4 (belowVia b3 (belowVia b2 b1)), keptBelow b4 (keptBelow b3 (keptBelow b2 c1)), keptBelow b4 (keptBelow b3 c2), keptBelow b4 c3, c4⟩
theorem set_cells (r h pa ia pb ib : Nat) (W : World) :
    Calls Tryz.prog 61 #[.pointer (some ⟨r, 0, none⟩), .func (.func h) #[] #[], .pointer (some ⟨pa, ia, none⟩), .pointer (some ⟨pb, ib, none⟩)] W fun e W' => e = .returned (.func (.func 92) #[] #[.pointer (some ⟨W.heap.size + 1, 0, none⟩), .pointer (some ⟨W.heap.size + 1 + 1, 0, none⟩), .pointer (some ⟨W.heap.size + 1 + 1 + 1, 0, none⟩), .pointer (some ⟨W.heap.size, 0, none⟩)]) ∧
      Below W.heap.size W W' ∧ W'.cell? ⟨W.heap.size, 0, none⟩ = some (.pointer (some ⟨r, 0, none⟩)) ∧ W'.cell? ⟨W.heap.size + 1, 0, none⟩ = some (.func (.func h) #[] #[]) ∧ W'.cell? ⟨W.heap.size + 1 + 1, 0, none⟩ = some (.pointer (some ⟨pa, ia, none⟩)) ∧ W'.cell? ⟨W.heap.size + 1 + 1 + 1, 0, none⟩ = some (.pointer (some ⟨pb, ib, none⟩)) := by
  refine (set_call r h pa ia pb ib W).mono ?_
  rintro e W' ⟨rfl, t1, t2, t3, t4, rfl⟩
  obtain ⟨hb, c1, c2, c3, c4⟩ := boxed4 W (.pointer (some ⟨r, 0, none⟩)) (.func (.func h) #[] #[]) (.pointer (some ⟨pa, ia, none⟩)) (.pointer (some ⟨pb, ib, none⟩)) t1 t2 t3 t4
  exact ⟨rfl, hb, c1, c2, c3, c4⟩
theorem set_step {V : List Nat} {W : World} {h : Nat} {F : ByteArray → ByteArray → ByteArray × Int} (hF : Op2 h F) {pa ia pb ib r : Nat} {fa fb : (Nat → ByteArray) → ByteArray}
    (hV : ∀ p, p ∈ V → p < W.heap.size) (hrV : r ∈ V) (ra : Reads V W pa ia fa) (rb : Reads V W pb ib fb) :
    Calls Tryz.prog 61 #[.pointer (some ⟨r, 0, none⟩), .func (.func h) #[] #[], .pointer (some ⟨pa, ia, none⟩), .pointer (some ⟨pb, ib, none⟩)] W fun e W' => (∃ v, e = .returned v ∧ Step V W' v (setT r F fa fb)) ∧ Below W.heap.size W W' := by
  refine (set_call r h pa ia pb ib W).mono ?_
  rintro e W' ⟨rfl, t1, t2, t3, t4, rfl⟩
  obtain ⟨hb, c1, c2, c3, c4⟩ := boxed4 W (.pointer (some ⟨r, 0, none⟩)) (.func (.func h) #[] #[]) (.pointer (some ⟨pa, ia, none⟩)) (.pointer (some ⟨pb, ib, none⟩)) t1 t2 t3 t4
  refine ⟨⟨_, rfl, set1_step hF c2 c3 c4 c1 ?_ ?_ ?_ ?_ hrV (ra.via hb) (rb.via hb)⟩, hb⟩ <;> exact fun e => by have := hV _ e; omega
/-- Steps, one after the other: those after an error are skipped. -/
def runL (L : List (Value × ((Nat → ByteArray) → (Nat → ByteArray) × Int))) (x : (Nat → ByteArray) × Int) : (Nat → ByteArray) × Int := L.foldl (fun x p => if x.2 = 0 then p.2 x.1 else x) x
theorem runL_snoc {L : List (Value × ((Nat → ByteArray) → (Nat → ByteArray) × Int))} {k : Nat} (h : k < L.length) (x : (Nat → ByteArray) × Int) :
    runL (L.take (k + 1)) x = if (runL (L.take k) x).2 = 0 then L[k].2 (runL (L.take k) x).1 else runL (L.take k) x := by
  unfold runL
  rw [List.take_succ_eq_append_getElem h, List.foldl_append]; rfl
theorem runL_local {V : List Nat} (L : List (Value × ((Nat → ByteArray) → (Nat → ByteArray) × Int))) (hL : ∀ q ∈ L, ∀ s p, p ∉ V → (q.2 s).1 p = s p) (x : (Nat → ByteArray) × Int) (p : Nat) (hp : p ∉ V) : (runL L x).1 p = x.1 p := by
  induction L generalizing x with
  | nil => rfl
  | cons q L ih =>
    show (runL L (if x.2 = 0 then q.2 x.1 else x)).1 p = _
    rw [ih (fun q hq => hL q (List.mem_cons_of_mem _ hq))]
    split
    · exact hL q (List.mem_cons_self ..) _ _ hp
    · rfl
def runT (ts : List ((Nat → ByteArray) → (Nat → ByteArray) × Int)) (x : (Nat → ByteArray) × Int) : (Nat → ByteArray) × Int := ts.foldl (fun x t => if x.2 = 0 then t x.1 else x) x
theorem runL_map (L : List (Value × ((Nat → ByteArray) → (Nat → ByteArray) × Int))) (x : (Nat → ByteArray) × Int) : runL L x = runT (L.map Prod.snd) x := by
  unfold runL runT; rw [List.foldl_map]
def chainT (L : List (Value × ((Nat → ByteArray) → (Nat → ByteArray) × Int))) (s : Nat → ByteArray) : (Nat → ByteArray) × Int := runL L (s, 0)
/-- A slice of steps. -/
structure StepsAt (V : List Nat) (K : World) (a : Option Addr) (L : List (Value × ((Nat → ByteArray) → (Nat → ByteArray) × Int))) : Prop where
  step : ∀ q, q ∈ L → Step V K q.1 q.2
  cell : L = [] ∨ ∃ g, a = some ⟨g, 0, none⟩ ∧ g ∉ V ∧ ∀ j q, L[j]? = some q → K.cell? ⟨g, j, none⟩ = some q.1
def seqT (ts : List ((Nat → ByteArray) → (Nat → ByteArray) × Int)) (s : Nat → ByteArray) : (Nat → ByteArray) × Int := runT ts (s, 0)
theorem chain_seq (L : List (Value × ((Nat → ByteArray) → (Nat → ByteArray) × Int))) : chainT L = seqT (L.map Prod.snd) := by funext s; exact runL_map L (s, 0)
theorem StepsAt.one {V : List Nat} {K : World} {g : Nat} {v0 : Value} {t0 : (Nat → ByteArray) → (Nat → ByteArray) × Int} (s0 : Step V K v0 t0) (hg : g ∉ V) (c0 : K.cell? ⟨g, 0, none⟩ = some v0) : StepsAt V K (some ⟨g, 0, none⟩) [(v0, t0)] := by
  refine ⟨fun x hx => ?_, .inr ⟨g, rfl, hg, fun j x hj => ?_⟩⟩
  · simp only [List.mem_cons, List.not_mem_nil, or_false] at hx
    rcases hx with rfl <;> assumption
  · match j with
    | 0 => cases hj; exact c0
    | j + 1 => simp at hj
theorem StepsAt.two {V : List Nat} {K : World} {g : Nat} {v0 v1 : Value} {t0 t1 : (Nat → ByteArray) → (Nat → ByteArray) × Int} (s0 : Step V K v0 t0) (s1 : Step V K v1 t1) (hg : g ∉ V) (c0 : K.cell? ⟨g, 0, none⟩ = some v0) (c1 : K.cell? ⟨g, 1, none⟩ = some v1) : StepsAt V K (some ⟨g, 0, none⟩) [(v0, t0), (v1, t1)] := by
  refine ⟨fun x hx => ?_, .inr ⟨g, rfl, hg, fun j x hj => ?_⟩⟩
  · simp only [List.mem_cons, List.not_mem_nil, or_false] at hx
    rcases hx with rfl | rfl <;> assumption
  · match j with
    | 0 => cases hj; exact c0
    | 1 => cases hj; exact c1
    | j + 2 => simp at hj
theorem StepsAt.three {V : List Nat} {K : World} {g : Nat} {v0 v1 v2 : Value} {t0 t1 t2 : (Nat → ByteArray) → (Nat → ByteArray) × Int} (s0 : Step V K v0 t0) (s1 : Step V K v1 t1) (s2 : Step V K v2 t2) (hg : g ∉ V) (c0 : K.cell? ⟨g, 0, none⟩ = some v0) (c1 : K.cell? ⟨g, 1, none⟩ = some v1) (c2 : K.cell? ⟨g, 2, none⟩ = some v2) : StepsAt V K (some ⟨g, 0, none⟩) [(v0, t0), (v1, t1), (v2, t2)] := by
  refine ⟨fun x hx => ?_, .inr ⟨g, rfl, hg, fun j x hj => ?_⟩⟩
  · simp only [List.mem_cons, List.not_mem_nil, or_false] at hx
    rcases hx with rfl | rfl | rfl <;> assumption
  · match j with
    | 0 => cases hj; exact c0
    | 1 => cases hj; exact c1
    | 2 => cases hj; exact c2
    | j + 3 => simp at hj
theorem StepsAt.four {V : List Nat} {K : World} {g : Nat} {v0 v1 v2 v3 : Value} {t0 t1 t2 t3 : (Nat → ByteArray) → (Nat → ByteArray) × Int} (s0 : Step V K v0 t0) (s1 : Step V K v1 t1) (s2 : Step V K v2 t2) (s3 : Step V K v3 t3) (hg : g ∉ V) (c0 : K.cell? ⟨g, 0, none⟩ = some v0) (c1 : K.cell? ⟨g, 1, none⟩ = some v1) (c2 : K.cell? ⟨g, 2, none⟩ = some v2) (c3 : K.cell? ⟨g, 3, none⟩ = some v3) : StepsAt V K (some ⟨g, 0, none⟩) [(v0, t0), (v1, t1), (v2, t2), (v3, t3)] := by
  refine ⟨fun x hx => ?_, .inr ⟨g, rfl, hg, fun j x hj => ?_⟩⟩
  · simp only [List.mem_cons, List.not_mem_nil, or_false] at hx
    rcases hx with rfl | rfl | rfl | rfl <;> assumption
  · match j with
    | 0 => cases hj; exact c0
    | 1 => cases hj; exact c1
    | 2 => cases hj; exact c2
    | 3 => cases hj; exact c3
    | j + 4 => simp at hj
theorem StepsAt.five {V : List Nat} {K : World} {g : Nat} {v0 v1 v2 v3 v4 : Value} {t0 t1 t2 t3 t4 : (Nat → ByteArray) → (Nat → ByteArray) × Int} (s0 : Step V K v0 t0) (s1 : Step V K v1 t1) (s2 : Step V K v2 t2) (s3 : Step V K v3 t3) (s4 : Step V K v4 t4) (hg : g ∉ V) (c0 : K.cell? ⟨g, 0, none⟩ = some v0) (c1 : K.cell? ⟨g, 1, none⟩ = some v1) (c2 : K.cell? ⟨g, 2, none⟩ = some v2) (c3 : K.cell? ⟨g, 3, none⟩ = some v3) (c4 : K.cell? ⟨g, 4, none⟩ = some v4) : StepsAt V K (some ⟨g, 0, none⟩) [(v0, t0), (v1, t1), (v2, t2), (v3, t3), (v4, t4)] := by
  refine ⟨fun x hx => ?_, .inr ⟨g, rfl, hg, fun j x hj => ?_⟩⟩
  · simp only [List.mem_cons, List.not_mem_nil, or_false] at hx
    rcases hx with rfl | rfl | rfl | rfl | rfl <;> assumption
  · match j with
    | 0 => cases hj; exact c0
    | 1 => cases hj; exact c1
    | 2 => cases hj; exact c2
    | 3 => cases hj; exact c3
    | 4 => cases hj; exact c4
    | j + 5 => simp at hj
set_option maxRecDepth 100000 in
set_option maxHeartbeats 4000000 in
theorem chain1_any {V : List Nat} {K : World} {a : Option Addr} {L : List (Value × ((Nat → ByteArray) → (Nat → ByteArray) × Int))} (hS : StepsAt V K a L) (hn : (L.length : Int) ≤ 100) {b c : Nat} (hc : K.cell? ⟨b, 0, none⟩ = some (.slice a L.length c)) (hb : b ∉ V)
    (s : Nat → ByteArray) (W : World) (hk : KeptV V K W) (hv : VarsAt V s W) :
    Calls Tryz.prog 109 #[.pointer (some ⟨b, 0, none⟩)] W fun e W' => e = .returned (.int .i64 (chainT L s).2) ∧ KeptV V W W' ∧ VarsAt V (chainT L s).1 W' := by
  have hcell := hk.cell hc hb
  have HS := Lib.hid hS
  have HK := Lib.hid hk
  have HV := Lib.hid hv
  clear hS hk hv hc
  go_enter Tryz.func109, Tryz.ntmps109
  go_wp2_with fail
  go_loopw [2, 7] (fun er i wr => ∃ k : Nat, k ≤ L.length ∧ i = .int .i64 k ∧ er = .int .i64 (runL (L.take k) (s, 0)).2 ∧ KeptV V W wr ∧ VarsAt V (runL (L.take k) (s, 0)).1 wr) (fun _ i _ => L.length - (intOf i).toNat)
  case atStart => exact ⟨0, by omega, rfl, rfl, KeptV.refl _ _, HV.out⟩
  case round =>
    obtain ⟨k, hkl, rfl, rfl, hkw, hvw⟩ := hrel
    have HKW := Lib.hid hkw
    have HVW := Lib.hid hvw
    clear hkw hvw
    by_cases hlt : k < L.length
    · have hlt' : (k : Int) < L.length := by omega
      have hrun := Lib.hid (runL_snoc hlt (s, 0))
      obtain ⟨q, hq⟩ : ∃ q, q = L[k] := ⟨_, rfl⟩
      have hqm : L[k]? = some q := by rw [hq]; exact List.getElem?_eq_getElem hlt
      have hst := HS.out.step q (by rw [hq]; exact List.getElem_mem _)
      rcases HS.out.cell with h0 | ⟨g, rfl, hg, hcs⟩
      · rw [h0] at hlt; exact absurd hlt (by simp)
      have hce := HKW.out.cell (HK.out.cell (hcs k q hqm) hg) hg
      rw [← hq] at hrun
      generalize runL (L.take k) (s, 0) = x at *
      obtain ⟨hl, f, caps, hqv, ef, hrunq⟩ := hst
      rw [hqv] at hce
      have HR := Lib.hid (hrunq x.1 wr (HK.out.trans HKW.out) HVW.out)
      clear hqv hrunq hl hqm hq hcs
      by_cases he : x.2 = 0
      · have HE := Lib.hid he
        have hrun2 := hrun.out
        rw [if_pos he] at hrun2
        have HR2 := Lib.hid hrun2
        clear hrun hrun2
        generalize x.2 = er at *
        rw [he]
        clear he
        go_wp2_with fail
        refine HR.out.mono ?_
        rintro e w2 ⟨rfl, hk2, hv2⟩
        have HK2 := Lib.hid hk2
        have HV2 := Lib.hid hv2
        clear hk2 hv2
        go_wp2_with fail
        go_roundw
        case rel => exact ⟨k + 1, by omega, by go_num, by rw [HR2.out], HKW.out.trans HK2.out, by rw [HR2.out]; exact HV2.out⟩
        case measure => simp [intOf]; omega
      · have he2 : (x.2 == 0) = false := by simp [he]
        have hrun2 := hrun.out
        rw [if_neg he] at hrun2
        have HR2 := Lib.hid hrun2
        clear hrun hrun2 HR ef
        obtain ⟨er, her⟩ : ∃ er, er = x.2 := ⟨_, rfl⟩
        rw [← her] at he2 ⊢
        have HER := Lib.hid her
        clear he her
        go_wp2_with fail
        go_roundw
        case rel => exact ⟨k + 1, by omega, by go_num, by rw [HR2.out, HER.out], HKW.out, by rw [HR2.out]; exact HVW.out⟩
        case measure => simp [intOf]; omega
    · have hle : (L.length : Int) ≤ k := by omega
      have hkk : k = L.length := by omega
      have HC : Hid (runL (L.take k) (s, 0) = chainT L s) := by
        show _ = _; rw [hkk, List.take_length]; rfl
      generalize runL (L.take k) (s, 0) = x at *
      obtain ⟨er, her⟩ : ∃ er, er = x.2 := ⟨_, rfl⟩
      rw [← her]
      have HER := Lib.hid her
      clear hkk her hlt
      go_wp2_with fail
      go_ret
      exact ⟨by rw [HER.out, HC.out]; rfl, HKW.out, by rw [← HC.out]; exact HVW.out⟩
set_option maxRecDepth 100000 in
set_option maxHeartbeats 2000000 in
theorem chain_call (v : Value) (hv : ∃ a n c, v = .slice a n c) (W : World) :
    Calls Tryz.prog 83 #[v] W fun e W' => e = .returned (.func (.func 109) #[] #[.pointer (some ⟨W.heap.size, 0, none⟩)]) ∧ ∃ t, W' = W.alloc (.cells #[v] t) := by
  obtain ⟨a, n, c, rfl⟩ := hv
  go_enter Tryz.func83, Tryz.ntmps83
  go_wp2_with fail
  go_ret
  exact ⟨rfl, _, rfl⟩
theorem chain_cells (a : Option Addr) (n c : Nat) (W : World) :
    Calls Tryz.prog 83 #[.slice a n c] W fun e W' => e = .returned (.func (.func 109) #[] #[.pointer (some ⟨W.heap.size, 0, none⟩)]) ∧ Below W.heap.size W W' ∧ W'.cell? ⟨W.heap.size, 0, none⟩ = some (.slice a n c) := by
  refine (chain_call _ ⟨_, _, _, rfl⟩ W).mono ?_
  rintro e W' ⟨rfl, t, rfl⟩
  exact ⟨rfl, alloc_below _ _, cell_box _ _ _⟩
theorem chain1_step {V : List Nat} {K : World} {a : Option Addr} {L : List (Value × ((Nat → ByteArray) → (Nat → ByteArray) × Int))} (hS : StepsAt V K a L) (hn : (L.length : Int) ≤ 100) {b c : Nat} (hc : K.cell? ⟨b, 0, none⟩ = some (.slice a L.length c)) (hb : b ∉ V) :
    Step V K (.func (.func 109) #[] #[.pointer (some ⟨b, 0, none⟩)]) (seqT (L.map Prod.snd)) := by
  rw [← chain_seq]
  exact ⟨fun _ p hp => runL_local L (fun q hq => (hS.step q hq).1) _ p hp, _, _, rfl, enters_of Tryz.func109 (by kernel_rfl) rfl, fun s W' hk hv => chain1_any hS hn hc hb s W' hk hv⟩
theorem chain_step {V : List Nat} {W : World} {a : Option Addr} {L : List (Value × ((Nat → ByteArray) → (Nat → ByteArray) × Int))} (hS : StepsAt V W a L) (hn : (L.length : Int) ≤ 100) (c : Nat) (hV : ∀ p, p ∈ V → p < W.heap.size) :
    Calls Tryz.prog 83 #[.slice a L.length c] W fun e W' => (∃ v, e = .returned v ∧ Step V W' v (seqT (L.map Prod.snd))) ∧ Below W.heap.size W W' := by
  rw [← chain_seq]
  refine (chain_call _ ⟨_, _, _, rfl⟩ W).mono ?_
  rintro e W' ⟨rfl, t, rfl⟩
  have hb := alloc_below W (.cells #[.slice a L.length c] t)
  have hc := cell_box W (.slice a L.length c) t
  have hb2 : W.heap.size ∉ V := fun e => by have := hV _ e; omega
  have hS' : StepsAt V (W.alloc (.cells #[.slice a L.length c] t)) a L := by
    refine ⟨fun q hq => (hS.step q hq).via hb, ?_⟩
    rcases hS.cell with h | ⟨g, h1, h2, h3⟩
    · exact .inl h
    · exact .inr ⟨g, h1, h2, fun j q hq => keptBelow hb (h3 j q hq)⟩
  refine ⟨⟨_, rfl, fun s p hp => runL_local L (fun q hq => (hS.step q hq).1) _ p hp, _, _, rfl, enters_of Tryz.func109 (by kernel_rfl) rfl, fun s W' hk hv => ?_⟩, hb⟩
  exact chain1_any hS' hn hc hb2 s W' hk hv
end Go.Proofs.YtelckldddflmmaaGreatDoor
/- RatValid: The contract of Valid, and of the step that asks for valid fractions. -/
namespace Go.Proofs.YtelckldddflmmaaGreatDoor
open Go.RowKit Putlog

theorem cmpI_pos {b : Int} : 0 < cmpI b 0 ↔ 0 < b := by unfold cmpI; split <;> (try split) <;> omega
theorem valid_eq (n d : ByteArray) : (readQ n d).isSome = (decide ((op2 gcdF n d).1 = ⟨#[49]⟩) && decide (0 < cmpS d ⟨#[48]⟩)) := by
  have f0 : Fits 0 := by decide
  rcases readI_cases n with ⟨a, rfl, ha, ra⟩ | ⟨_, ra⟩
  · rcases readI_cases d with ⟨b, rfl, hb, rb⟩ | ⟨_, rb⟩
    · rw [op2_ints ha hb, readQ_ints ha hb, ← intB_zero, cmpS_ints hb f0, ← intB_one]
      have h1 : (gcdF a b).1 = intB (Int.gcd a b : Nat) := rfl
      rw [h1]
      have h2 : intB (Int.gcd a b : Nat) = intB 1 ↔ Int.gcd a b = 1 := ⟨fun e => by have := intB_inj e; omega, fun e => by rw [e]; rfl⟩
      by_cases c1 : Int.gcd a b = 1
      · rw [decide_eq_true (h2.2 c1), Bool.true_and]
        by_cases c2 : 0 < b
        · rw [if_pos ⟨c2, c1⟩, decide_eq_true (cmpI_pos.2 c2)]; rfl
        · rw [if_neg (fun h => c2 h.1), decide_eq_false (fun h => c2 (cmpI_pos.1 h))]; rfl
      · rw [if_neg (fun h => c1 h.2), decide_eq_false (fun h => c1 (h2.1 h)), Bool.false_and]; rfl
    · rw [readQ_no2 rb, op2_no (.inr rb)]; rfl
  · rw [readQ_no1 ra, op2_no (.inl ra)]; rfl
theorem zero_sized : Sized ⟨#[48]⟩ := by unfold Sized; decide
set_option maxRecDepth 100000 in
set_option maxHeartbeats 2000000 in
theorem valid_q (n d : ByteArray) (hn : Sized n) (hd : Sized d) (w : World) :
    Calls Tryz.prog 24 #[.agg #[.string n, .string d]] w fun e w' => e = .returned (.bool (readQ n d).isSome) ∧ Below w.heap.size w w' := by
  rw [valid_eq]
  have HG := Lib.hid (fun W => op2_gcd.2.2 n d W hn hd)
  have HC := Lib.hid (fun W => cmp_str d ⟨#[48]⟩ W hd zero_sized)
  have he := str_eq (op2 gcdF n d).1 ⟨#[49]⟩
  rw [show (⟨#[49]⟩ : ByteArray).toList = [49] by decide +kernel] at he
  generalize (op2 gcdF n d).1 = c at *
  generalize (op2 gcdF n d).2 = k at *
  generalize cmpS d ⟨#[48]⟩ = m at *
  clear hn hd
  obtain ⟨p, hp⟩ : ∃ p, p = decide (c = ⟨#[49]⟩) := ⟨_, rfl⟩
  rw [← hp] at he ⊢
  clear hp
  have h1 := cell_row2 w (.string n) (.string d) 23
  obtain ⟨k1, k2, kb⟩ := h1
  have KB := Lib.hid kb
  clear kb
  cases p with
  | true =>
    go_enter Tryz.func24, Tryz.ntmps24
    go_wp2_with fail
    refine (HG.out _).mono ?_
    rintro e w1 ⟨rfl, hB1⟩
    have k3 := keptBelow hB1 k2
    have HB1 := Lib.hid hB1
    clear hB1
    go_wp2_with fail
    refine (HC.out _).mono ?_
    rintro e w2 ⟨rfl, hB2⟩
    go_wp2_with fail
    go_ret
    exact ⟨by simp, belowVia hB2 (belowVia HB1.out KB.out)⟩
  | false =>
    go_enter Tryz.func24, Tryz.ntmps24
    go_wp2_with fail
    refine (HG.out _).mono ?_
    rintro e w1 ⟨rfl, hB1⟩
    have k3 := keptBelow hB1 k2
    have HB1 := Lib.hid hB1
    clear hB1
    go_wp2_with fail
    go_ret
    exact ⟨by simp, belowVia HB1.out KB.out⟩
def checkT (ok : Bool) (s : Nat → ByteArray) : (Nat → ByteArray) × Int := (s, if ok then 0 else 40)
/-- A slice of fractions' texts. -/
def FracsAt (K : World) (g : Nat) (l : List (ByteArray × ByteArray)) : Prop := ∀ j q, l[j]? = some q → K.cell? ⟨g, j * 2, none⟩ = some (.string q.1) ∧ K.cell? ⟨g, j * 2 + 1, none⟩ = some (.string q.2)
def okAll (l : List (ByteArray × ByteArray)) : Bool := l.all fun q => (readQ q.1 q.2).isSome
set_option maxRecDepth 100000 in
set_option maxHeartbeats 4000000 in
theorem fractions1_any {V : List Nat} {K : World} {g : Nat} {l : List (ByteArray × ByteArray)} (hF : FracsAt K g l) (hg : g ∉ V) (hl : ∀ q ∈ l, Sized q.1 ∧ Sized q.2) (hn : (l.length : Int) ≤ 100) {b c : Nat} (hc : K.cell? ⟨b, 0, none⟩ = some (.slice (some ⟨g, 0, none⟩) l.length c)) (hb : b ∉ V)
    (W : World) (hk : KeptV V K W) :
    Calls Tryz.prog 91 #[.pointer (some ⟨b, 0, none⟩)] W fun e W' => e = .returned (.int .i64 (if okAll l then 0 else 40)) ∧ Below W.heap.size W W' := by
  have hcell := hk.cell hc hb
  have HK := Lib.hid hk
  have HF := Lib.hid hF
  have HL := Lib.hid hl
  obtain ⟨er, her⟩ : ∃ er : Int, er = if okAll l then 0 else 40 := ⟨_, rfl⟩
  rw [← her]
  have HER := Lib.hid her
  clear hk hc hF hl her
  go_enter Tryz.func91, Tryz.ntmps91
  go_wp2_with fail
  go_loopw [6] (fun i wr => ∃ k : Nat, k ≤ l.length ∧ i = .int .i64 k ∧ okAll (l.take k) = true ∧ Below W.heap.size W wr) (fun i _ => l.length - (intOf i).toNat)
  case atStart => exact ⟨0, by omega, rfl, rfl, Below.refl _ _⟩
  case round =>
    obtain ⟨k, hkl, rfl, hok, hB⟩ := hrel
    have HOK := Lib.hid hok
    have HB := Lib.hid hB
    clear hok hB
    by_cases hlt : k < l.length
    · have hlt' : (k : Int) < l.length := by omega
      obtain ⟨q, hq⟩ : ∃ q, q = l[k] := ⟨_, rfl⟩
      have hqm : l[k]? = some q := by rw [hq]; exact List.getElem?_eq_getElem hlt
      obtain ⟨x1, x2⟩ := HF.out k q hqm
      have hx1 := keptBelow HB.out (HK.out.cell x1 hg)
      have hx2 := keptBelow HB.out (HK.out.cell x2 hg)
      obtain ⟨sz1, sz2⟩ := HL.out q (by rw [hq]; exact List.getElem_mem _)
      have HVQ := Lib.hid (fun W => valid_q q.1 q.2 sz1 sz2 W)
      clear x1 x2 sz1 sz2
      have HT : Hid (okAll (l.take (k + 1)) = (readQ q.1 q.2).isSome) := by
        show _ = _
        have h := HOK.out
        unfold okAll at *
        rw [List.take_succ_eq_append_getElem hlt, List.all_append, h, ← hq]; simp
      have HN : Hid ((readQ q.1 q.2).isSome = false → er = 40) := fun h => by
        have h2 : okAll l = false := by
          unfold okAll
          rw [List.all_eq_false]
          exact ⟨q, by rw [hq]; exact List.getElem_mem _, by rw [h]; simp⟩
        rw [HER.out, h2]; rfl
      obtain ⟨r, hr⟩ : ∃ r, r = (readQ q.1 q.2).isSome := ⟨_, rfl⟩
      rw [← hr] at HVQ HT HN
      clear hr hqm
      obtain ⟨qx, qy⟩ := q
      dsimp only at *
      clear hq
      cases r with
      | true =>
        go_wp2_with fail
        refine (HVQ.out _).mono ?_
        rintro e w2 ⟨rfl, hB2⟩
        have HB2 := Lib.hid (belowVia hB2 (belowVia (alloc_below _ _) HB.out))
        clear hB2
        go_wp2_with fail
        go_roundw
        case rel => exact ⟨k + 1, by omega, by go_num, HT.out, HB2.out⟩
        case measure => simp [intOf]; omega
      | false =>
        have H40 := Lib.hid (HN.out rfl)
        clear HN HT
        go_wp2_with fail
        refine (HVQ.out _).mono ?_
        rintro e w2 ⟨rfl, hB2⟩
        have HB2 := Lib.hid (belowVia hB2 (belowVia (alloc_below _ _) HB.out))
        clear hB2
        go_wp2_with fail
        go_ret
        exact ⟨by rw [H40.out]; rfl, HB2.out⟩
    · have hle : (l.length : Int) ≤ k := by omega
      have hkk : k = l.length := by omega
      have HO2 : Hid (er = 0) := by
        show _ = _; have := HOK.out; rw [hkk, List.take_length] at this; rw [HER.out, this]; rfl
      clear hkk hlt
      go_wp2_with fail
      go_ret
      exact ⟨by rw [HO2.out]; rfl, HB.out⟩
set_option maxRecDepth 100000 in
set_option maxHeartbeats 2000000 in
theorem fractions_call (g n c : Nat) (W : World) :
    Calls Tryz.prog 60 #[.slice (some ⟨g, 0, none⟩) n c] W fun e W' => e = .returned (.func (.func 91) #[] #[.pointer (some ⟨W.heap.size, 0, none⟩)]) ∧ ∃ t, W' = W.alloc (.cells #[.slice (some ⟨g, 0, none⟩) n c] t) := by
  go_enter Tryz.func60, Tryz.ntmps60
  go_wp2_with fail
  go_ret
  exact ⟨rfl, _, rfl⟩
theorem fractions_step {V : List Nat} {W : World} {g : Nat} {l : List (ByteArray × ByteArray)} (hF : FracsAt W g l) (hg : g ∉ V) (hl : ∀ q ∈ l, Sized q.1 ∧ Sized q.2) (hn : (l.length : Int) ≤ 100) (c : Nat) (hV : ∀ p, p ∈ V → p < W.heap.size) :
    Calls Tryz.prog 60 #[.slice (some ⟨g, 0, none⟩) l.length c] W fun e W' => (∃ v, e = .returned v ∧ Step V W' v (checkT (okAll l))) ∧ Below W.heap.size W W' := by
  refine (fractions_call g _ c W).mono ?_
  rintro e W' ⟨rfl, t, rfl⟩
  have hb := alloc_below W (.cells #[.slice (some ⟨g, 0, none⟩) l.length c] t)
  have hc := cell_box W (.slice (some ⟨g, 0, none⟩) l.length c) t
  have hb2 : W.heap.size ∉ V := fun e => by have := hV _ e; omega
  have hF' : FracsAt (W.alloc (.cells #[.slice (some ⟨g, 0, none⟩) l.length c] t)) g l := fun j q hq => ⟨keptBelow hb (hF j q hq).1, keptBelow hb (hF j q hq).2⟩
  refine ⟨⟨_, rfl, fun _ _ _ => rfl, _, _, rfl, enters_of Tryz.func91 (by kernel_rfl) rfl, fun s W' hk hv => ?_⟩, hb⟩
  refine (fractions1_any hF' hg hl hn hc hb2 W' hk).mono ?_
  rintro e W'' ⟨rfl, hB⟩
  exact ⟨rfl, KeptV.of_below hB, hv.via hB⟩
end Go.Proofs.YtelckldddflmmaaGreatDoor
/- RatPos: The step that makes the denominator positive. -/
namespace Go.Proofs.YtelckldddflmmaaGreatDoor
open Go.RowKit Putlog

def negT (n d : Nat) : (Nat → ByteArray) → (Nat → ByteArray) × Int := seqT [setT n (op2 subF) (fun _ => ⟨#[48]⟩) (fun s => s n), setT d (op2 subF) (fun _ => ⟨#[48]⟩) (fun s => s d)]
def posT (n d : Nat) (s : Nat → ByteArray) : (Nat → ByteArray) × Int := if s d = ⟨#[48]⟩ then (s, 40) else if cmpS (s d) ⟨#[48]⟩ < 0 then negT n d s else (s, 0)
set_option maxRecDepth 100000 in
set_option maxHeartbeats 4000000 in
theorem pos1_any {V : List Nat} {K : World} {n d : Nat} (hdV : d ∈ V) {b bx : Nat} (hb : K.cell? ⟨b, 0, none⟩ = some (.pointer (some ⟨d, 0, none⟩))) (hbV : b ∉ V) {v : Value} (hx : K.cell? ⟨bx, 0, none⟩ = some v) (hxV : bx ∉ V)
    (hS : Step V K v (negT n d)) (s : Nat → ByteArray) (W : World) (hk : KeptV V K W) (hv : VarsAt V s W) :
    Calls Tryz.prog 110 #[.pointer (some ⟨b, 0, none⟩), .pointer (some ⟨bx, 0, none⟩)] W fun e W' => e = .returned (.int .i64 (posT n d s).2) ∧ KeptV V W W' ∧ VarsAt V (posT n d s).1 W' := by
  have c1 := hk.cell hb hbV
  have c2 := hk.cell hx hxV
  have c3 := (cell_one (hv.cell d hdV)).1
  have sd := hv.sized d hdV
  have HC := Lib.hid (fun W => cmp_str (s d) ⟨#[48]⟩ W sd zero_sized)
  have he := str_eq (s d) ⟨#[48]⟩
  rw [show (⟨#[48]⟩ : ByteArray).toList = [48] by decide +kernel] at he
  obtain ⟨_, f, caps, rfl, ef, hrun⟩ := hS
  have HR := Lib.hid hrun
  have HK := Lib.hid hk
  have HV := Lib.hid hv
  obtain ⟨x, hxx⟩ : ∃ x, x = s d := ⟨_, rfl⟩
  rw [← hxx] at c3 HC he
  clear hrun hk hv sd hb hx
  by_cases h0 : x = ⟨#[48]⟩
  · rw [decide_eq_true h0] at he
    have hp : posT n d s = (s, 40) := by unfold posT; rw [← hxx, if_pos h0]
    rw [hp]
    clear hp h0 hxx
    go_enter Tryz.func110, Tryz.ntmps110
    go_wp2_with fail
    go_ret
    exact ⟨rfl, KeptV.refl _ _, HV.out⟩
  · rw [decide_eq_false h0] at he
    by_cases hneg : cmpS x ⟨#[48]⟩ < 0
    · have hp : posT n d s = negT n d s := by unfold posT; rw [← hxx, if_neg h0, if_pos hneg]
      rw [hp]
      generalize cmpS x ⟨#[48]⟩ = m at *
      clear hp h0 hxx
      go_enter Tryz.func110, Tryz.ntmps110
      go_wp2_with fail
      refine (HC.out _).mono ?_
      rintro e w1 ⟨rfl, hB1⟩
      have c4 := keptBelow hB1 c2
      have HR1 := Lib.hid (HR.out s w1 (HK.out.trans (KeptV.of_below hB1)) (HV.out.via hB1))
      have HB1 := Lib.hid hB1
      clear hB1
      go_wp2_with fail
      refine HR1.out.mono ?_
      rintro e w2 ⟨rfl, hk2, hv2⟩
      have HK2 := Lib.hid hk2
      have HV2 := Lib.hid hv2
      clear hk2 hv2
      go_wp2_with fail
      go_ret
      exact ⟨rfl, (KeptV.of_below HB1.out).trans HK2.out, HV2.out⟩
    · have hp : posT n d s = (s, 0) := by unfold posT; rw [← hxx, if_neg h0, if_neg hneg]
      rw [hp]
      have hneg' : 0 ≤ cmpS x ⟨#[48]⟩ := by omega
      generalize cmpS x ⟨#[48]⟩ = m at *
      clear hp h0 hxx hneg
      go_enter Tryz.func110, Tryz.ntmps110
      go_wp2_with fail
      refine (HC.out _).mono ?_
      rintro e w1 ⟨rfl, hB1⟩
      have HB1 := Lib.hid hB1
      clear hB1
      go_wp2_with fail
      go_ret
      exact ⟨rfl, KeptV.of_below HB1.out, HV.out.via HB1.out⟩
/-- What the cells say. -/
theorem pos_made {V : List Nat} {K : World} {n d base z b bx q g p1 p2 c : Nat} (hV : ∀ p, p ∈ V → p < base) (hnV : n ∈ V) (hdV : d ∈ V)
    (hz : K.cell? ⟨z, 0, none⟩ = some (.string ⟨#[48]⟩))
    (hb : K.cell? ⟨b, 0, none⟩ = some (.pointer (some ⟨d, 0, none⟩)))
    (hx : K.cell? ⟨bx, 0, none⟩ = some (.func (.func 109) #[] #[.pointer (some ⟨q, 0, none⟩)]))
    (hq : K.cell? ⟨q, 0, none⟩ = some (.slice (some ⟨g, 0, none⟩) 2 c))
    (h0 : K.cell? ⟨g, 0, none⟩ = some (.func (.func 92) #[] #[.pointer (some ⟨p1 + 1, 0, none⟩), .pointer (some ⟨p1 + 1 + 1, 0, none⟩), .pointer (some ⟨p1 + 1 + 1 + 1, 0, none⟩), .pointer (some ⟨p1, 0, none⟩)]))
    (h1 : K.cell? ⟨g, 1, none⟩ = some (.func (.func 92) #[] #[.pointer (some ⟨p2 + 1, 0, none⟩), .pointer (some ⟨p2 + 1 + 1, 0, none⟩), .pointer (some ⟨p2 + 1 + 1 + 1, 0, none⟩), .pointer (some ⟨p2, 0, none⟩)]))
    (a0 : K.cell? ⟨p1, 0, none⟩ = some (.pointer (some ⟨n, 0, none⟩))) (a1 : K.cell? ⟨p1 + 1, 0, none⟩ = some (.func (.func 63) #[] #[])) (a2 : K.cell? ⟨p1 + 1 + 1, 0, none⟩ = some (.pointer (some ⟨z, 0, none⟩))) (a3 : K.cell? ⟨p1 + 1 + 1 + 1, 0, none⟩ = some (.pointer (some ⟨n, 0, none⟩)))
    (b0 : K.cell? ⟨p2, 0, none⟩ = some (.pointer (some ⟨d, 0, none⟩))) (b1 : K.cell? ⟨p2 + 1, 0, none⟩ = some (.func (.func 63) #[] #[])) (b2 : K.cell? ⟨p2 + 1 + 1, 0, none⟩ = some (.pointer (some ⟨z, 0, none⟩))) (b3 : K.cell? ⟨p2 + 1 + 1 + 1, 0, none⟩ = some (.pointer (some ⟨d, 0, none⟩)))
    (lz : base ≤ z) (lb : base ≤ b) (lx : base ≤ bx) (lq : base ≤ q) (lg : base ≤ g) (l1 : base ≤ p1) (l2 : base ≤ p2) :
    Step V K (.func (.func 110) #[] #[.pointer (some ⟨b, 0, none⟩), .pointer (some ⟨bx, 0, none⟩)]) (posT n d) := by
  have no : ∀ p, base ≤ p → p ∉ V := fun p hp e => by have := hV p e; omega
  have s1 := set1_step op2_sub a1 a2 a3 a0 (no _ (by omega)) (no _ (by omega)) (no _ (by omega)) (no _ (by omega)) hnV (Reads.const hz (no _ lz) zero_sized) (Reads.var hnV)
  have s2 := set1_step op2_sub b1 b2 b3 b0 (no _ (by omega)) (no _ (by omega)) (no _ (by omega)) (no _ (by omega)) hdV (Reads.const hz (no _ lz) zero_sized) (Reads.var hdV)
  have hst : Step V K _ (negT n d) := chain1_step (StepsAt.two s1 s2 (no _ lg) h0 h1) (by simp) hq (no _ lq)
  have hl : ∀ s p, p ∉ V → (posT n d s).1 p = s p := fun s p hp => by
    unfold posT
    split
    · rfl
    · split
      · exact hst.1 s p hp
      · rfl
  exact ⟨hl, _, _, rfl, enters_of Tryz.func110 (by kernel_rfl) rfl, fun s W hk hv => pos1_any hdV hb (no _ lb) hx (no _ lx) hst s W hk hv⟩
theorem posKeep {w2 w w1 : World} {p : Nat} {v : Value} (h : w.cell? ⟨p, 0, none⟩ = some v ∧ Below w2.heap.size w2 w) (hB : Below w.heap.size w w1) : w1.cell? ⟨p, 0, none⟩ = some v ∧ Below w2.heap.size w2 w1 := ⟨keptBelow hB h.1, belowVia hB h.2⟩
theorem posStore {w2 w : World} {p x : Nat} {v y : Value} (h : w.cell? ⟨p, 0, none⟩ = some v ∧ Below w2.heap.size w2 w) (hp : p < x) (hx : w2.heap.size ≤ x) : (w.setCell ⟨x, 0, none⟩ y).cell? ⟨p, 0, none⟩ = some v ∧ Below w2.heap.size w2 (w.setCell ⟨x, 0, none⟩ y) := ⟨cellOther h.1 (by omega), h.2.setCell (p := ⟨x, 0, none⟩) hx y⟩
theorem posSwap {w2 w : World} {p : Nat} {v : Value} {o o' : Obj} (h : (w.alloc o).cell? ⟨p, 0, none⟩ = some v ∧ Below w2.heap.size w2 (w.alloc o)) (hp : p < w.heap.size) (hw : w2.heap.size ≤ w.heap.size) : (w.alloc o').cell? ⟨p, 0, none⟩ = some v ∧ Below w2.heap.size w2 (w.alloc o') := by
  have e1 := (alloc_below w o).block p hp
  have e2 := (alloc_below w o').block p hp
  refine ⟨?_, h.2.os, h.2.tape, h.2.output, by rw [alloc_size]; omega, fun k hk => ?_⟩
  · rw [← h.1]; simp only [World.cell?, e1, e2]
  · rw [← h.2.block k hk, (alloc_below w o).block k (by omega), (alloc_below w o').block k (by omega)]
def BoxAt (w : World) (x : Nat) (v : Value) : Prop := w.cell? ⟨x, 0, none⟩ = some v ∧ w.frozen? ⟨x, 0, none⟩ = false
theorem boxNew (w : World) (v : Value) (t : TypeId) : BoxAt (w.alloc (.cells #[v] t)) w.heap.size v := cell_one (heap_alloc_new w _)
theorem boxVia {w w' : World} {x : Nat} {v : Value} (hB : Below w.heap.size w w') (h : BoxAt w x v) : BoxAt w' x v := ⟨keptBelow hB h.1, frozenBelow hB h.1 h.2⟩
theorem rowA {w : World} {p : Nat} {x y : Value} {t : TypeId} (h : p = w.heap.size) : (w.alloc (.cells #[x, y] t)).cell? ⟨p, 0, none⟩ = some x := by subst h; exact (cell_row2 w x y t).1
theorem rowB {w : World} {p : Nat} {x y : Value} {t : TypeId} (h : p = w.heap.size) : (w.alloc (.cells #[x, y] t)).cell? ⟨p, 1, none⟩ = some y := by subst h; exact (cell_row2 w x y t).2.1
theorem undrewCell {w : World} {p i : Nat} {v : Value} (h : w.cell? ⟨p, i, none⟩ = some v) : w.drew.cell? ⟨p, i, none⟩ = some v := h
theorem drew_size (w : World) : w.drew.heap.size = w.heap.size := rfl
theorem sizeVia {p : Prop} {w2 w w1 : World} {B : Nat} (h : p ∧ Below B w2 w) (hB : Below w.heap.size w w1) : w2.heap.size ≤ w1.heap.size := Nat.le_trans h.2.size hB.size
set_option maxRecDepth 100000 in
set_option maxHeartbeats 4000000 in
theorem pos_step {V : List Nat} {n d : Nat} (W : World) (hV : ∀ p, p ∈ V → p < W.heap.size) (hnV : n ∈ V) (hdV : d ∈ V) :
    Calls Tryz.prog 84 #[.pointer (some ⟨n, 0, none⟩), .pointer (some ⟨d, 0, none⟩)] W fun e W' => (∃ v, e = .returned v ∧ Step V W' v (posT n d)) ∧ Below W.heap.size W W' := by
  have HS := Lib.hid (fun r h pa ia pb ib W => set_cells r h pa ia pb ib W)
  have HC := Lib.hid (fun a n c W => chain_cells a n c W)
  have HV := Lib.hid hV
  have HN := Lib.hid hnV
  have HD := Lib.hid hdV
  clear hV hnV hdV
  go_enter Tryz.func84, Tryz.ntmps84
  go_wp2_with fail
  have z1 := alloc_size W (.cells #[.pointer (some ⟨d, 0, none⟩)] 65)
  have k1 := cell_box W (.pointer (some ⟨d, 0, none⟩)) 65
  have B1 := alloc_below W (.cells #[.pointer (some ⟨d, 0, none⟩)] 65)
  generalize W.alloc (.cells #[.pointer (some ⟨d, 0, none⟩)] 65) = wa at *
  have k2 := cell_box wa (.string ⟨#[48]⟩) 9
  rw [z1] at k2
  have z2 := alloc_size wa (.cells #[.string ⟨#[48]⟩] 9)
  rw [z1] at z2
  have B2 := alloc_below wa (.cells #[.string ⟨#[48]⟩] 9)
  have k3 := keptBelow B2 k1
  have BW := Lib.hid (belowVia B2 B1)
  generalize wa.alloc (.cells #[.string ⟨#[48]⟩] 9) = w2 at *
  have hp0 : W.heap.size < w2.heap.size := by omega
  have hp1 : W.heap.size + 1 < w2.heap.size := by omega
  clear k1 B1 B2 z1 z2
  go_region_held3 (fun w' => w'.cell? ⟨W.heap.size, 0, none⟩ = some (.pointer (some ⟨d, 0, none⟩)) ∧ Below w2.heap.size w2 w')
    (first | exact ⟨k3, (Below.refl _ _).drew⟩ | exact posKeep (by assumption) (alloc_below _ _) | exact posKeep (by assumption) hB1 | exact posKeep (by assumption) hB3 | exact posKeep (by assumption) hB4 | exact posSwap (by assumption) (by omega) (by omega) | exact posStore (by assumption) (by omega) (by omega) | trace_state) (first
    | (go_at_call 61; (first | ((with_reducible refine (HS.out n _ _ _ _ _ _).mono ?_); rintro e w1 ⟨rfl, hB1, a0, a1, a2, a3⟩; have L1 : w2.heap.size ≤ w1.heap.size := sizeVia (by assumption) hB1; (first | have X1 := boxVia hB1 (boxNew _ _ _) | skip)) | ((with_reducible refine (HS.out d _ _ _ _ _ _).mono ?_); rintro e w3 ⟨rfl, hB3, b0, b1, b2, b3⟩; have L3 : w2.heap.size ≤ w3.heap.size := sizeVia (by assumption) hB3; (first | have X3 := boxVia hB3 X1 | have X3 := boxVia hB3 (boxNew _ _ _) | skip))))
    | (go_at_call 83; (with_reducible refine (HC.out _ _ _ _).mono ?_); rintro e w4 ⟨rfl, hB4, c0⟩; have L4 : w2.heap.size ≤ w4.heap.size := sizeVia (by assumption) hB4; (first | have X4 := boxVia hB4 (boxVia (alloc_below _ _) X3) | have X4 := boxVia hB4 (boxVia (alloc_below _ _) (boxNew _ _ _)) | have X4 := boxVia hB4 (boxNew _ _ _) | skip); (first | (obtain ⟨X5, X6⟩ := X4; (try simp only [alloc_size] at X5 X6); (try simp only [drew_size] at X5 X6)) | skip)))
  all_goals
    try simp only [drew_size] at a0 a1 a2 a3
    try simp only [alloc_size] at b0 b1 b2 b3
    try simp only [alloc_size] at c0
    try simp only [alloc_size] at a0 a1 a2 a3
    have HH : Hid (Below w2.heap.size w2 _) := And.right (by assumption)
    go_wp2_with fail
    go_ret
    have la := lt_of_cell a3
    have lb := lt_of_cell b3
    have lc := lt_of_cell c0
    exact ⟨⟨_, rfl, pos_made (base := W.heap.size) (z := W.heap.size + 1) HV.out HN.out HD.out
      (by repeat (first | with_reducible assumption | with_reducible exact cell_box _ _ _ | with_reducible exact rowA (by simp only [alloc_size]) | with_reducible exact rowB (by simp only [alloc_size]) | with_reducible refine cellOther ?_ (by omega) | exact World.cell?_setCell_same' _ _ _ (by rw [X5]; rfl) | with_reducible refine undrewCell ?_ | with_reducible refine keptBelow hB4 ?_ | with_reducible refine keptBelow hB3 ?_ | with_reducible refine keptBelow hB1 ?_ | with_reducible refine keptBelow (alloc_below _ _) ?_))
      (by repeat (first | with_reducible assumption | with_reducible exact cell_box _ _ _ | with_reducible exact rowA (by simp only [alloc_size]) | with_reducible exact rowB (by simp only [alloc_size]) | with_reducible refine cellOther ?_ (by omega) | exact World.cell?_setCell_same' _ _ _ (by rw [X5]; rfl) | with_reducible refine undrewCell ?_ | with_reducible refine keptBelow hB4 ?_ | with_reducible refine keptBelow hB3 ?_ | with_reducible refine keptBelow hB1 ?_ | with_reducible refine keptBelow (alloc_below _ _) ?_))
      (by repeat (first | with_reducible assumption | with_reducible exact cell_box _ _ _ | with_reducible exact rowA (by simp only [alloc_size]) | with_reducible exact rowB (by simp only [alloc_size]) | with_reducible refine cellOther ?_ (by omega) | exact World.cell?_setCell_same' _ _ _ (by rw [X5]; rfl) | with_reducible refine undrewCell ?_ | with_reducible refine keptBelow hB4 ?_ | with_reducible refine keptBelow hB3 ?_ | with_reducible refine keptBelow hB1 ?_ | with_reducible refine keptBelow (alloc_below _ _) ?_))
      (by repeat (first | with_reducible assumption | with_reducible exact cell_box _ _ _ | with_reducible exact rowA (by simp only [alloc_size]) | with_reducible exact rowB (by simp only [alloc_size]) | with_reducible refine cellOther ?_ (by omega) | exact World.cell?_setCell_same' _ _ _ (by rw [X5]; rfl) | with_reducible refine undrewCell ?_ | with_reducible refine keptBelow hB4 ?_ | with_reducible refine keptBelow hB3 ?_ | with_reducible refine keptBelow hB1 ?_ | with_reducible refine keptBelow (alloc_below _ _) ?_))
      (by repeat (first | with_reducible assumption | with_reducible exact cell_box _ _ _ | with_reducible exact rowA (by simp only [alloc_size]) | with_reducible exact rowB (by simp only [alloc_size]) | with_reducible refine cellOther ?_ (by omega) | exact World.cell?_setCell_same' _ _ _ (by rw [X5]; rfl) | with_reducible refine undrewCell ?_ | with_reducible refine keptBelow hB4 ?_ | with_reducible refine keptBelow hB3 ?_ | with_reducible refine keptBelow hB1 ?_ | with_reducible refine keptBelow (alloc_below _ _) ?_))
      (by repeat (first | with_reducible assumption | with_reducible exact cell_box _ _ _ | with_reducible exact rowA (by simp only [alloc_size]) | with_reducible exact rowB (by simp only [alloc_size]) | with_reducible refine cellOther ?_ (by omega) | exact World.cell?_setCell_same' _ _ _ (by rw [X5]; rfl) | with_reducible refine undrewCell ?_ | with_reducible refine keptBelow hB4 ?_ | with_reducible refine keptBelow hB3 ?_ | with_reducible refine keptBelow hB1 ?_ | with_reducible refine keptBelow (alloc_below _ _) ?_))
      (by repeat (first | with_reducible assumption | with_reducible exact cell_box _ _ _ | with_reducible exact rowA (by simp only [alloc_size]) | with_reducible exact rowB (by simp only [alloc_size]) | with_reducible refine cellOther ?_ (by omega) | exact World.cell?_setCell_same' _ _ _ (by rw [X5]; rfl) | with_reducible refine undrewCell ?_ | with_reducible refine keptBelow hB4 ?_ | with_reducible refine keptBelow hB3 ?_ | with_reducible refine keptBelow hB1 ?_ | with_reducible refine keptBelow (alloc_below _ _) ?_))
      (by repeat (first | with_reducible assumption | with_reducible exact cell_box _ _ _ | with_reducible exact rowA (by simp only [alloc_size]) | with_reducible exact rowB (by simp only [alloc_size]) | with_reducible refine cellOther ?_ (by omega) | exact World.cell?_setCell_same' _ _ _ (by rw [X5]; rfl) | with_reducible refine undrewCell ?_ | with_reducible refine keptBelow hB4 ?_ | with_reducible refine keptBelow hB3 ?_ | with_reducible refine keptBelow hB1 ?_ | with_reducible refine keptBelow (alloc_below _ _) ?_))
      (by repeat (first | with_reducible assumption | with_reducible exact cell_box _ _ _ | with_reducible exact rowA (by simp only [alloc_size]) | with_reducible exact rowB (by simp only [alloc_size]) | with_reducible refine cellOther ?_ (by omega) | exact World.cell?_setCell_same' _ _ _ (by rw [X5]; rfl) | with_reducible refine undrewCell ?_ | with_reducible refine keptBelow hB4 ?_ | with_reducible refine keptBelow hB3 ?_ | with_reducible refine keptBelow hB1 ?_ | with_reducible refine keptBelow (alloc_below _ _) ?_))
      (by repeat (first | with_reducible assumption | with_reducible exact cell_box _ _ _ | with_reducible exact rowA (by simp only [alloc_size]) | with_reducible exact rowB (by simp only [alloc_size]) | with_reducible refine cellOther ?_ (by omega) | exact World.cell?_setCell_same' _ _ _ (by rw [X5]; rfl) | with_reducible refine undrewCell ?_ | with_reducible refine keptBelow hB4 ?_ | with_reducible refine keptBelow hB3 ?_ | with_reducible refine keptBelow hB1 ?_ | with_reducible refine keptBelow (alloc_below _ _) ?_))
      (by repeat (first | with_reducible assumption | with_reducible exact cell_box _ _ _ | with_reducible exact rowA (by simp only [alloc_size]) | with_reducible exact rowB (by simp only [alloc_size]) | with_reducible refine cellOther ?_ (by omega) | exact World.cell?_setCell_same' _ _ _ (by rw [X5]; rfl) | with_reducible refine undrewCell ?_ | with_reducible refine keptBelow hB4 ?_ | with_reducible refine keptBelow hB3 ?_ | with_reducible refine keptBelow hB1 ?_ | with_reducible refine keptBelow (alloc_below _ _) ?_))
      (by repeat (first | with_reducible assumption | with_reducible exact cell_box _ _ _ | with_reducible exact rowA (by simp only [alloc_size]) | with_reducible exact rowB (by simp only [alloc_size]) | with_reducible refine cellOther ?_ (by omega) | exact World.cell?_setCell_same' _ _ _ (by rw [X5]; rfl) | with_reducible refine undrewCell ?_ | with_reducible refine keptBelow hB4 ?_ | with_reducible refine keptBelow hB3 ?_ | with_reducible refine keptBelow hB1 ?_ | with_reducible refine keptBelow (alloc_below _ _) ?_))
      (by repeat (first | with_reducible assumption | with_reducible exact cell_box _ _ _ | with_reducible exact rowA (by simp only [alloc_size]) | with_reducible exact rowB (by simp only [alloc_size]) | with_reducible refine cellOther ?_ (by omega) | exact World.cell?_setCell_same' _ _ _ (by rw [X5]; rfl) | with_reducible refine undrewCell ?_ | with_reducible refine keptBelow hB4 ?_ | with_reducible refine keptBelow hB3 ?_ | with_reducible refine keptBelow hB1 ?_ | with_reducible refine keptBelow (alloc_below _ _) ?_))
      (by repeat (first | with_reducible assumption | with_reducible exact cell_box _ _ _ | with_reducible exact rowA (by simp only [alloc_size]) | with_reducible exact rowB (by simp only [alloc_size]) | with_reducible refine cellOther ?_ (by omega) | exact World.cell?_setCell_same' _ _ _ (by rw [X5]; rfl) | with_reducible refine undrewCell ?_ | with_reducible refine keptBelow hB4 ?_ | with_reducible refine keptBelow hB3 ?_ | with_reducible refine keptBelow hB1 ?_ | with_reducible refine keptBelow (alloc_below _ _) ?_))
      (by omega) (by omega) (by omega) (by omega) (by omega) (by omega) (by omega)⟩, belowVia HH.out BW.out⟩
end Go.Proofs.YtelckldddflmmaaGreatDoor
/- RatBuilt: The steps that reduce, and what is built of steps. -/
namespace Go.Proofs.YtelckldddflmmaaGreatDoor
open Go.RowKit Putlog

def lowT (n d c : Nat) : (Nat → ByteArray) → (Nat → ByteArray) × Int :=
  seqT [setT c (op2 gcdF) (fun s => s n) (fun s => s d), setT n (op2 quoF) (fun s => s n) (fun s => s c), setT d (op2 quoF) (fun s => s d) (fun s => s c)]
theorem lt_more {V : List Nat} {W : World} {c : Nat} (hV : ∀ p, p ∈ V → p < W.heap.size) (hc : c < W.heap.size) : ∀ p, p ∈ c :: V → p < W.heap.size := fun p hp => by
  rcases List.mem_cons.1 hp with rfl | hp
  · exact hc
  · exact hV p hp
theorem lt_via {V : List Nat} {W W' : World} (hV : ∀ p, p ∈ V → p < W.heap.size) (hB : Below W.heap.size W W') : ∀ p, p ∈ V → p < W'.heap.size := fun p hp => Nat.lt_of_lt_of_le (hV p hp) hB.size
set_option maxRecDepth 100000 in
set_option maxHeartbeats 4000000 in
theorem low_step {V : List Nat} {n d : Nat} (W : World) (hV : ∀ p, p ∈ V → p < W.heap.size) (hnV : n ∈ V) (hdV : d ∈ V) :
    Calls Tryz.prog 85 #[.pointer (some ⟨n, 0, none⟩), .pointer (some ⟨d, 0, none⟩)] W fun e W' => (∃ v, e = .returned v ∧ Step (W.heap.size :: V) W' v (lowT n d W.heap.size)) ∧ Below W.heap.size W W' ∧ W'.heap[W.heap.size]? = some (.cells #[.string ⟨#[]⟩] 9 (0, 0)) := by
  have hcV : W.heap.size ∈ W.heap.size :: V := List.mem_cons_self ..
  have HC := Lib.hid hcV
  have HN := Lib.hid (List.mem_cons_of_mem W.heap.size hnV)
  have HD := Lib.hid (List.mem_cons_of_mem W.heap.size hdV)
  have HV := Lib.hid hV
  clear hV hcV hnV hdV
  go_enter Tryz.func85, Tryz.ntmps85
  go_wp2_with fail
  have hz := heap_alloc_new W (.cells #[.string ⟨#[]⟩] 9)
  have b1 := alloc_below W (.cells #[.string ⟨#[]⟩] 9)
  have z1 := alloc_size W (.cells #[.string ⟨#[]⟩] 9)
  generalize W.alloc (.cells #[.string ⟨#[]⟩] 9) = w1 at *
  have HV1 := Lib.hid (lt_more (lt_via HV.out b1) (show W.heap.size < w1.heap.size by omega))
  have HZ := Lib.hid hz
  have HB1 := Lib.hid b1
  clear hz b1 z1
  refine (set_step op2_gcd HV1.out HC.out (Reads.var HN.out) (Reads.var HD.out)).mono ?_
  rintro e w2 ⟨⟨v1, rfl, s1⟩, hB⟩
  have S1 := Lib.hid s1
  have HB2 := Lib.hid hB
  have HV2 := Lib.hid (lt_via HV1.out hB)
  obtain ⟨f1, k1, rfl⟩ := s1.form
  clear hB s1
  go_wp2_with fail
  refine (set_step op2_quo HV2.out HN.out (Reads.var HN.out) (Reads.var HC.out)).mono ?_
  rintro e w3 ⟨⟨v2, rfl, s2⟩, hB⟩
  have S2 := Lib.hid s2
  have HB3 := Lib.hid hB
  have HV3 := Lib.hid (lt_via HV2.out hB)
  obtain ⟨f2, k2, rfl⟩ := s2.form
  clear hB s2
  go_wp2_with fail
  refine (set_step op2_quo HV3.out HD.out (Reads.var HD.out) (Reads.var HC.out)).mono ?_
  rintro e w4 ⟨⟨v3, rfl, s3⟩, hB⟩
  have S3 := Lib.hid s3
  have HB4 := Lib.hid hB
  have HV4 := Lib.hid (lt_via HV3.out hB)
  obtain ⟨f3, k3, rfl⟩ := s3.form
  clear hB s3
  go_wp2_with fail
  have HR := Lib.hid (alloc_below w4 (.cells #[.func (.func f1) #[] k1, .func (.func f2) #[] k2, .func (.func f3) #[] k3] 72))
  have r0 := cell_rowN w4 #[.func (.func f1) #[] k1, .func (.func f2) #[] k2, .func (.func f3) #[] k3] 72 0 rfl
  have r1 := cell_rowN w4 #[.func (.func f1) #[] k1, .func (.func f2) #[] k2, .func (.func f3) #[] k3] 72 1 rfl
  have r2 := cell_rowN w4 #[.func (.func f1) #[] k1, .func (.func f2) #[] k2, .func (.func f3) #[] k3] 72 2 rfl
  have hg : w4.heap.size ∉ W.heap.size :: V := fun e => by have := HV4.out _ e; omega
  have HV5 := Lib.hid (lt_via HV4.out HR.out)
  generalize w4.alloc (.cells #[.func (.func f1) #[] k1, .func (.func f2) #[] k2, .func (.func f3) #[] k3] 72) = w5 at *
  have HT := Lib.hid (StepsAt.three (((S1.out.via HB3.out).via HB4.out).via HR.out) ((S2.out.via HB4.out).via HR.out) (S3.out.via HR.out) hg r0 r1 r2)
  refine (chain_step HT.out (by simp) 3 HV5.out).mono ?_
  rintro e w6 ⟨⟨v, rfl, sv⟩, hB⟩
  have SV := Lib.hid sv
  have HB6 := Lib.hid hB
  clear sv hB
  go_wp2_with fail
  go_ret
  exact ⟨⟨_, rfl, SV.out⟩, belowVia HB6.out (belowVia HR.out (belowVia HB4.out (belowVia HB3.out (belowVia HB2.out HB1.out)))), heap_below HB6.out (heap_below HR.out (heap_below HB4.out (heap_below HB3.out (heap_below HB2.out HZ.out))))⟩
theorem info_ratio : (Tryz.prog.info? 23).map (·.size) = some 2 := by kernel_rfl
theorem load_q {w : World} {g : Nat} {x y : Value} {fr : Nat × Nat} (hg : w.heap[g]? = some (.cells #[x, y] 23 fr)) : (loadVar 23 ⟨g, 0, none⟩).run Tryz.prog w = .ok (.agg #[x, y]) w :=
  run_loadVar_row w g _ _ _ _ _ hg Tryz.underlying23 rfl info_ratio
theorem results_q {fn : Func} {p : Tmp} (h : fn.results = #[.cell p 23]) (tmps : Array Value) (w : World) (g : Nat) (x y : Value) {fr : Nat × Nat} (hp : tmps.getD p undef = .pointer (some ⟨g, 0, none⟩)) (hg : w.heap[g]? = some (.cells #[x, y] 23 fr)) :
    (results fn tmps).run Tryz.prog w = .ok (.agg #[x, y]) w :=
  results_cell_row h tmps w g _ _ _ _ hp hg Tryz.underlying23 rfl info_ratio
theorem results_qe {fn : Func} {p u : Tmp} (h : fn.results = #[.cell p 23, .tmp u]) (tmps : Array Value) (w : World) (g : Nat) (x y : Value) {fr : Nat × Nat} (hp : tmps.getD p undef = .pointer (some ⟨g, 0, none⟩)) (hg : w.heap[g]? = some (.cells #[x, y] 23 fr)) :
    (results fn tmps).run Tryz.prog w = .ok (.tuple #[.agg #[x, y], tmps.getD u undef]) w := by
  have hp' : tmps[p]?.getD undef = .pointer (some ⟨g, 0, none⟩) := by simpa using hp
  simp [results, h, hp', asAddr, load_q hg]
/-- What is built: two texts and an error. -/
def doneT (x : (Nat → ByteArray) × Int) (n d : Nat) : ByteArray × ByteArray × Int := if x.2 = 0 then (x.1 n, x.1 d, 0) else (⟨#[]⟩, ⟨#[]⟩, 40)
def builtT (ts : List ((Nat → ByteArray) → (Nat → ByteArray) × Int)) (n d c : Nat) (s : Nat → ByteArray) : (Nat → ByteArray) × Int := seqT [seqT ts, posT n d, lowT n d c] s
def GivesR (x y : ByteArray) (k : Int) (V : List Nat) (w : World) (e : Ending) (w' : World) : Prop := e = .returned (.tuple #[.agg #[.string x, .string y], .int .i64 k]) ∧ KeptV V w w'
theorem VarsAt.more {V : List Nat} {s : Nat → ByteArray} {W : World} {c : Nat} (h : VarsAt V s W) (hc : W.heap[c]? = some (.cells #[.string ⟨#[]⟩] 9 (0, 0))) (hn : c ∉ V) : VarsAt (c :: V) (upd s c ⟨#[]⟩) W := by
  refine ⟨fun p hp => ?_, fun p hp => ?_⟩
  · rcases List.mem_cons.1 hp with rfl | hp
    · rw [upd_same]; exact hc
    · rw [upd_other _ _ (fun e => hn (by rw [← e]; exact hp))]; exact h.cell p hp
  · rcases List.mem_cons.1 hp with rfl | hp
    · rw [upd_same]; exact sized_nil
    · rw [upd_other _ _ (fun e => hn (by rw [← e]; exact hp))]; exact h.sized p hp
set_option maxRecDepth 100000 in
set_option maxHeartbeats 4000000 in
theorem built_any {V : List Nat} {n d : Nat} {a : Option Addr} {L : List (Value × ((Nat → ByteArray) → (Nat → ByteArray) × Int))} (ca : Nat) (s : Nat → ByteArray) (W : World) (hV : ∀ p, p ∈ V → p < W.heap.size) (hnV : n ∈ V) (hdV : d ∈ V) (hvs : VarsAt V s W) (hL : StepsAt V W a L) (hn : (L.length : Int) ≤ 100) :
    Calls Tryz.prog 52 #[.pointer (some ⟨n, 0, none⟩), .pointer (some ⟨d, 0, none⟩), .slice a L.length ca] W fun e W' =>
      ∃ c, c ∉ V ∧ GivesR (doneT (builtT (L.map Prod.snd) n d c (upd s c ⟨#[]⟩)) n d).1 (doneT (builtT (L.map Prod.snd) n d c (upd s c ⟨#[]⟩)) n d).2.1 (doneT (builtT (L.map Prod.snd) n d c (upd s c ⟨#[]⟩)) n d).2.2 V W e W' := by
  have HV := Lib.hid hV
  have HN := Lib.hid hnV
  have HD := Lib.hid hdV
  have HS := Lib.hid hvs
  have HL := Lib.hid hL
  clear hV hnV hdV hvs hL
  go_enter Tryz.func52, Tryz.ntmps52
  go_wp2_with fail
  have hz := heap_alloc_new W (.cells #[.string ⟨#[]⟩, .string ⟨#[]⟩] 23)
  have b1 := alloc_below W (.cells #[.string ⟨#[]⟩, .string ⟨#[]⟩] 23)
  generalize W.alloc (.cells #[.string ⟨#[]⟩, .string ⟨#[]⟩] 23) = w1 at *
  have HZ := Lib.hid hz
  have HB1 := Lib.hid b1
  have HV1 := Lib.hid (lt_via HV.out b1)
  have HL1 : Hid (StepsAt V w1 a L) := ⟨fun q hq => (HL.out.step q hq).via b1, HL.out.cell.imp_right fun ⟨g, e1, e2, e3⟩ => ⟨g, e1, e2, fun j q hq => keptBelow b1 (e3 j q hq)⟩⟩
  clear hz b1
  refine (chain_step HL1.out hn ca HV1.out).mono ?_
  rintro e w2 ⟨⟨v1, rfl, s1⟩, hB⟩
  have S1 := Lib.hid s1
  have HB2 := Lib.hid hB
  have HV2 := Lib.hid (lt_via HV1.out hB)
  obtain ⟨f1, k1, rfl⟩ := s1.form
  clear hB s1
  go_wp2_with fail
  refine (pos_step w2 HV2.out HN.out HD.out).mono ?_
  rintro e w3 ⟨⟨v2, rfl, s2⟩, hB⟩
  have S2 := Lib.hid s2
  have HB3 := Lib.hid hB
  have HV3 := Lib.hid (lt_via HV2.out hB)
  obtain ⟨f2, k2, rfl⟩ := s2.form
  clear hB s2
  go_wp2_with fail
  refine (low_step w3 HV3.out HN.out HD.out).mono ?_
  rintro e w4 ⟨⟨v3, rfl, s3⟩, hB, hcc⟩
  have S3 := Lib.hid s3
  have HB4 := Lib.hid hB
  have hcn : w3.heap.size ∉ V := fun e => by have := HV3.out _ e; omega
  have HCN := Lib.hid hcn
  have HV4 : Hid (∀ p, p ∈ w3.heap.size :: V → p < w4.heap.size) := lt_more (lt_via HV3.out hB) (Array.getElem?_eq_some_iff.1 hcc).1
  have HVA : Hid (VarsAt (w3.heap.size :: V) (upd s w3.heap.size ⟨#[]⟩) w4) := VarsAt.more ((((HS.out.via HB1.out).via HB2.out).via HB3.out).via hB) hcc hcn
  have hlt1 : W.heap.size < w3.heap.size := by
    have h1 := (Array.getElem?_eq_some_iff.1 HZ.out).1; have := HB2.out.size; have := HB3.out.size; omega
  have HR1 : Hid (Step (w3.heap.size :: V) w4 (.func (.func f1) #[] k1) (seqT (L.map Prod.snd))) := S1.out.more (belowVia hB HB3.out) HB3.out.size hcn
  have HR2 : Hid (Step (w3.heap.size :: V) w4 (.func (.func f2) #[] k2) (posT n d)) := S2.out.more hB (Nat.le_refl _) hcn
  obtain ⟨f3, k3, rfl⟩ := s3.form
  have HB14 : Hid (Below W.heap.size W w4) := belowVia hB (belowVia HB3.out (belowVia HB2.out HB1.out))
  have HZ4 : Hid (w4.heap[W.heap.size]? = some (.cells #[.string ⟨#[]⟩, .string ⟨#[]⟩] 23 (0, 0))) := heap_below hB (heap_below HB3.out (heap_below HB2.out HZ.out))
  have HLT : Hid (W.heap.size ≤ w3.heap.size) := Nat.le_of_lt hlt1
  clear hB s3 hcc hcn HB4 HB3 HB2 HB1 HZ S1 S2
  have HRN := Lib.hid (fun e : W.heap.size ∈ w3.heap.size :: V => by
    rcases List.mem_cons.1 e with e | e
    · omega
    · exact Nat.lt_irrefl _ (HV.out _ e) : W.heap.size ∉ w3.heap.size :: V)
  clear hlt1
  generalize w3.heap.size = c at *
  go_wp2_with fail
  have HR := Lib.hid (alloc_below w4 (.cells #[.func (.func f1) #[] k1, .func (.func f2) #[] k2, .func (.func f3) #[] k3] 72))
  have r0 := cell_rowN w4 #[.func (.func f1) #[] k1, .func (.func f2) #[] k2, .func (.func f3) #[] k3] 72 0 rfl
  have r1 := cell_rowN w4 #[.func (.func f1) #[] k1, .func (.func f2) #[] k2, .func (.func f3) #[] k3] 72 1 rfl
  have r2 := cell_rowN w4 #[.func (.func f1) #[] k1, .func (.func f2) #[] k2, .func (.func f3) #[] k3] 72 2 rfl
  have hg : w4.heap.size ∉ c :: V := fun e => by have := HV4.out _ e; omega
  have HV5 := Lib.hid (lt_via HV4.out HR.out)
  generalize w4.alloc (.cells #[.func (.func f1) #[] k1, .func (.func f2) #[] k2, .func (.func f3) #[] k3] 72) = w5 at *
  have HT := Lib.hid (StepsAt.three (HR1.out.via HR.out) (HR2.out.via HR.out) (S3.out.via HR.out) hg r0 r1 r2)
  clear r0 r1 r2 hg
  refine (chain_step HT.out (by simp) 3 HV5.out).mono ?_
  rintro e w6 ⟨⟨v, rfl, sv⟩, hB⟩
  have SV := Lib.hid sv
  have HB6 := Lib.hid hB
  obtain ⟨hl, f, k, rfl, ef, hrun⟩ := sv
  have HRUN := Lib.hid (hrun (upd s c ⟨#[]⟩) w6 (KeptV.refl _ _) ((HVA.out.via HR.out).via hB))
  clear hB hl hrun
  have HBIG : Hid (builtT (L.map Prod.snd) n d c (upd s c ⟨#[]⟩) = seqT [seqT (L.map Prod.snd), posT n d, lowT n d c] (upd s c ⟨#[]⟩)) := rfl
  obtain ⟨x, hx⟩ : ∃ x, x = builtT (L.map Prod.snd) n d c (upd s c ⟨#[]⟩) := ⟨_, rfl⟩
  have HX := Lib.hid hx
  have hrun2 : Hid (Calls Tryz.prog f k w6 fun e W' => e = .returned (.int .i64 x.2) ∧ KeptV (c :: V) w6 W' ∧ VarsAt (c :: V) x.1 W') := by
    rw [hx]; exact HRUN
  clear hx HRUN
  go_wp2_with fail
  refine hrun2.out.mono ?_
  rintro e w7 ⟨rfl, hk7, hv7⟩
  have HK7 := Lib.hid hk7
  have hr7 : w7.heap[W.heap.size]? = some (.cells #[.string ⟨#[]⟩, .string ⟨#[]⟩] 23 (0, 0)) :=
    hk7.heap (heap_below HB6.out (heap_below HR.out HZ4.out)) HRN.out
  obtain ⟨q1, f1'⟩ := cell2 hr7
  obtain ⟨q2, f2'⟩ := cell2b hr7
  have c1 := (cell_one (hv7.cell n (List.mem_cons_of_mem _ HN.out))).1
  have c2 := (cell_one (hv7.cell d (List.mem_cons_of_mem _ HD.out))).1
  have HR7 := Lib.hid hr7
  have HKW : Hid (KeptV V W w7) := ((KeptV.of_below (belowVia HB6.out (belowVia HR.out HB14.out))).trans hk7).drop HLT.out
  have HRW : Hid (∀ y1 y2, KeptV V W ((w7.setCell ⟨W.heap.size, 0, none⟩ y1).setCell ⟨W.heap.size, 1, none⟩ y2)) := fun y1 y2 =>
    KeptV.drop (((HKW.out.mono (fun p hp => List.mem_cons_of_mem W.heap.size hp)).set (List.mem_cons_self ..) y1).set (List.mem_cons_self ..) y2) (Nat.le_refl _)
  have HRS : Hid (∀ y1 y2, ((w7.setCell ⟨W.heap.size, 0, none⟩ y1).setCell ⟨W.heap.size, 1, none⟩ y2).heap[W.heap.size]? = some (.cells #[y1, y2] 23 (0, 0))) := fun y1 y2 =>
    heap_setCell_same _ _ 1 _ _ y2 (heap_setCell_same w7 _ 0 _ _ y1 HR7.out)
  clear hk7 hv7 hr7
  by_cases he : x.2 = 0
  · have HRES : Hid (doneT (builtT (L.map Prod.snd) n d c (upd s c ⟨#[]⟩)) n d = (x.1 n, x.1 d, 0)) := by
      show _ = _; rw [← HX.out]; unfold doneT; rw [if_pos he]
    have HE := Lib.hid he
    have he2 : (x.2 != 0) = false := by simp [he]
    generalize x.2 = er at *
    generalize x.1 n = t1 at *
    generalize x.1 d = t2 at *
    clear he HK7 HX
    go_wp2_with fail
    go_region
    go_wp2_with fail
    refine bodyPost_ret (results_qe rfl _ _ W.heap.size _ _ rfl (HRS.out _ _)) rfl ?_
    refine ⟨c, HCN.out, ?_⟩
    rw [HRES.out]
    exact ⟨rfl, (HRW.out _ _).drew 1⟩
  · have he2 : (x.2 != 0) = true := by simp [he]
    have HRES : Hid (doneT (builtT (L.map Prod.snd) n d c (upd s c ⟨#[]⟩)) n d = (⟨#[]⟩, ⟨#[]⟩, 40)) := by
      show _ = _; rw [← HX.out]; unfold doneT; rw [if_neg he]
    generalize x.2 = er at *
    clear he HK7 HX c1 c2
    go_wp2_with fail
    refine bodyPost_ret (results_qe rfl _ _ W.heap.size _ _ rfl (HRS.out _ _)) rfl ?_
    refine ⟨c, HCN.out, ?_⟩
    rw [HRES.out]
    exact ⟨rfl, HRW.out _ _⟩
end Go.Proofs.YtelckldddflmmaaGreatDoor
/- RatFin: What is built, in terms of fractions. -/
namespace Go.Proofs.YtelckldddflmmaaGreatDoor
open Go.RowKit Putlog

def resT (o : Option Rat) : ByteArray × ByteArray × Int := (numB o, denB o, errQ o)
theorem seq_nil (s : Nat → ByteArray) : seqT [] s = (s, 0) := rfl
theorem run_stop (ts : List ((Nat → ByteArray) → (Nat → ByteArray) × Int)) (x : (Nat → ByteArray) × Int) (h : x.2 ≠ 0) : runT ts x = x := by
  unfold runT
  induction ts with
  | nil => rfl
  | cons t ts ih => rw [List.foldl_cons, if_neg h]; exact ih
theorem run_go (t : (Nat → ByteArray) → (Nat → ByteArray) × Int) (ts : List ((Nat → ByteArray) → (Nat → ByteArray) × Int)) (x : (Nat → ByteArray) × Int) (h : x.2 = 0) : runT (t :: ts) x = runT ts (t x.1) := by
  unfold runT; rw [List.foldl_cons, if_pos h]
theorem seq_cons (t : (Nat → ByteArray) → (Nat → ByteArray) × Int) (ts : List ((Nat → ByteArray) → (Nat → ByteArray) × Int)) (s : Nat → ByteArray) : seqT (t :: ts) s = runT ts (t s) := run_go t ts _ rfl
theorem f0 : Fits 0 := by decide
theorem is_zero (b : Int) : intB b = ⟨#[48]⟩ ↔ b = 0 := by rw [← intB_zero]; exact ⟨fun e => intB_inj e, fun e => by rw [e]⟩
theorem readI_zero : readI ⟨#[48]⟩ = some 0 := by rw [← intB_zero]; exact readI_int f0
theorem readI_one : readI ⟨#[49]⟩ = some 1 := by rw [← intB_one]; exact readI_int (by decide)
theorem quoF_pos {a g : Int} (h : g ≠ 0) : quoF a g = (intB (a / g), 0) := if_neg h
theorem set_eq {r : Nat} {F : ByteArray → ByteArray → ByteArray × Int} {fa fb : (Nat → ByteArray) → ByteArray} {s : Nat → ByteArray} {x y z : ByteArray} {k : Int} (hx : fa s = x) (hy : fb s = y) (hF : F x y = (z, k)) : setT r F fa fb s = (upd s r z, k) := by
  unfold setT; rw [hx, hy, hF]
theorem low_ok {n d c : Nat} (hnd : n ≠ d) (hcn : c ≠ n) (hcd : c ≠ d) {s : Nat → ByteArray} {a b : Int} (ha : Fits a) (hb : Fits b) (h0 : 0 < b) (en : s n = intB a) (ed : s d = intB b) :
    doneT (lowT n d c s) n d = resT (some (Rat.divInt a b)) := by
  have hg : (Int.gcd a b : Int) ≠ 0 := by have := gcd_posI (n := a) (d := b) (by omega); omega
  have fg := gcd_fits ha hb
  unfold lowT
  rw [seq_cons]
  have e1 : setT c (op2 gcdF) (fun s => s n) (fun s => s d) s = (upd s c (intB (Int.gcd a b : Nat)), 0) :=
    set_eq en ed (op2_ints ha hb)
  rw [e1, run_go _ _ _ rfl]
  have e2 : setT n (op2 quoF) (fun s => s n) (fun s => s c) (upd s c (intB (Int.gcd a b : Nat))) = (upd (upd s c (intB (Int.gcd a b : Nat))) n (intB (a / (Int.gcd a b : Nat))), 0) :=
    set_eq ((upd_other _ _ hcn.symm).trans en) (upd_same ..) ((op2_ints ha fg).trans (quoF_pos hg))
  rw [e2, run_go _ _ _ rfl]
  have e3 : setT d (op2 quoF) (fun s => s d) (fun s => s c) (upd (upd s c (intB (Int.gcd a b : Nat))) n (intB (a / (Int.gcd a b : Nat)))) = (upd (upd (upd s c (intB (Int.gcd a b : Nat))) n (intB (a / (Int.gcd a b : Nat)))) d (intB (b / (Int.gcd a b : Nat))), 0) :=
    set_eq ((upd_other _ _ hnd.symm).trans ((upd_other _ _ hcd.symm).trans ed)) ((upd_other _ _ hcn).trans (upd_same ..)) ((op2_ints hb fg).trans (quoF_pos hg))
  rw [e3]
  show doneT (_, 0) n d = _
  unfold doneT
  rw [if_pos rfl]
  obtain ⟨p1, p2⟩ := red_parts (n := a) h0
  show (upd _ d _ n, upd _ d _ d, (0 : Int)) = (intB (Rat.divInt a b).num, intB (Rat.divInt a b).den, 0)
  rw [upd_same, upd_other _ _ hnd, upd_same, p1, p2]
theorem low_no {n d c : Nat} {s : Nat → ByteArray} (h : readI (s n) = none ∨ readI (s d) = none) : doneT (lowT n d c s) n d = resT none := by
  unfold lowT
  rw [seq_cons]
  have e1 : (setT c (op2 gcdF) (fun s => s n) (fun s => s d) s).2 = 30 := by
    rw [set_eq rfl rfl (op2_no h)]
  rw [run_stop _ _ (by rw [e1]; decide)]
  unfold doneT
  rw [e1, if_neg (by decide)]; rfl
theorem done_err {x : (Nat → ByteArray) × Int} (n d : Nat) (h : x.2 ≠ 0) : doneT x n d = resT none := by unfold doneT; rw [if_neg h]; rfl
theorem subF_neg {a : Int} (h : Fits a) : subF 0 a = (intB (0 - a), 0) := by unfold subF; rw [okS_fits (fits_neg h), okE_fits (fits_neg h)]
theorem fin_eq {n d c : Nat} (hnd : n ≠ d) (hcn : c ≠ n) (hcd : c ≠ d) (s : Nat → ByteArray) : doneT (runT [lowT n d c] (posT n d s)) n d = resT (makeQ (readI (s n)) (readI (s d))) := by
  rcases readI_cases (s d) with ⟨b, eb, fb, rb⟩ | ⟨_, rb⟩
  · rw [rb]
    by_cases h0 : b = 0
    · subst h0
      have e : posT n d s = (s, 40) := by unfold posT; rw [if_pos ((is_zero 0).2 rfl ▸ eb)]
      rw [e, run_stop _ _ (show (40 : Int) ≠ 0 by decide), done_err _ _ (show (40 : Int) ≠ 0 by decide), makeQ_zero]
    · have hz : s d ≠ ⟨#[48]⟩ := fun e => h0 ((is_zero b).1 (eb ▸ e))
      have hc : cmpS (s d) ⟨#[48]⟩ = cmpI b 0 := by rw [eb, ← intB_zero, cmpS_ints fb f0]
      by_cases hneg : b < 0
      · have hc2 : cmpI b 0 = -1 := by unfold cmpI; exact if_pos hneg
        have e : posT n d s = negT n d s := by unfold posT; rw [if_neg hz, if_pos (by rw [hc, hc2]; decide)]
        rw [e]
        unfold negT
        rw [seq_cons]
        rcases readI_cases (s n) with ⟨a, ea, fa, ra⟩ | ⟨_, ra⟩
        · rw [ra]
          have e1 : setT n (op2 subF) (fun _ => ⟨#[48]⟩) (fun s => s n) s = (upd s n (intB (0 - a)), 0) :=
            set_eq intB_zero.symm ea ((op2_ints f0 fa).trans (subF_neg fa))
          rw [e1, run_go (setT d _ _ _) [] _ rfl]
          have e2 : setT d (op2 subF) (fun _ => ⟨#[48]⟩) (fun s => s d) (upd s n (intB (0 - a))) = (upd (upd s n (intB (0 - a))) d (intB (0 - b)), 0) :=
            set_eq intB_zero.symm ((upd_other _ _ hnd.symm).trans eb) ((op2_ints f0 fb).trans (subF_neg fb))
          rw [e2]
          show doneT (runT [lowT n d c] (_, 0)) n d = _
          rw [run_go _ _ _ rfl]
          show doneT (lowT n d c _) n d = _
          rw [low_ok hnd hcn hcd (a := 0 - a) (b := 0 - b) (fits_neg fa) (fits_neg fb) (by omega) (by rw [upd_other _ _ hnd, upd_same]) (upd_same ..), divInt_neg_neg, makeQ_ok h0]
        · rw [ra, makeQ_no1]
          have e1 : (setT n (op2 subF) (fun _ => ⟨#[48]⟩) (fun s => s n) s).2 = 30 := by rw [set_eq rfl rfl (op2_no (.inr ra))]
          rw [run_stop [setT d _ _ _] _ (by rw [e1]; decide), run_stop _ _ (by rw [e1]; decide)]
          exact done_err _ _ (by rw [e1]; decide)
      · have hc2 : ¬ cmpI b 0 < 0 := by have := cmpI_pos.2 (show 0 < b by omega); omega
        have e : posT n d s = (s, 0) := by unfold posT; rw [if_neg hz, if_neg (by rw [hc]; exact hc2)]
        rw [e, run_go _ _ _ rfl]
        show doneT (lowT n d c s) n d = _
        rcases readI_cases (s n) with ⟨a, ea, fa, ra⟩ | ⟨_, ra⟩
        · rw [ra, low_ok hnd hcn hcd fa fb (by omega) ea eb, makeQ_ok h0]
        · rw [ra, makeQ_no1]; exact low_no (.inl ra)
  · rw [rb, makeQ_no2]
    have hz : s d ≠ ⟨#[48]⟩ := fun e => by rw [e, readI_zero] at rb; cases rb
    have e : posT n d s = (s, 0) := by unfold posT; rw [if_neg hz, if_neg (by rw [cmpS_no (.inl rb)]; decide)]
    rw [e, run_go _ _ _ rfl]
    exact low_no (.inr rb)
/-- What is built of steps that end so. -/
theorem built_ok {ts : List ((Nat → ByteArray) → (Nat → ByteArray) × Int)} {n d c : Nat} {s s1 : Nat → ByteArray} (hnd : n ≠ d) (hcn : c ≠ n) (hcd : c ≠ d) (h : seqT ts s = (s1, 0)) :
    doneT (builtT ts n d c s) n d = resT (makeQ (readI (s1 n)) (readI (s1 d))) := by
  unfold builtT
  rw [seq_cons, h, run_go _ _ _ rfl]
  exact fin_eq hnd hcn hcd s1
theorem built_err {ts : List ((Nat → ByteArray) → (Nat → ByteArray) × Int)} {n d c : Nat} {s : Nat → ByteArray} (h : (seqT ts s).2 ≠ 0) :
    doneT (builtT ts n d c s) n d = resT none := by
  unfold builtT
  rw [seq_cons, run_stop _ _ h]
  exact done_err _ _ h
end Go.Proofs.YtelckldddflmmaaGreatDoor
/- RatOpsP: The four operations' steps, in terms of fractions. -/
namespace Go.Proofs.YtelckldddflmmaaGreatDoor
open Go.RowKit Putlog

theorem okAll_two (x1 x2 y1 y2 : ByteArray) : okAll [(x1, x2), (y1, y2)] = ((readQ x1 x2).isSome && (readQ y1 y2).isSome) := by simp [okAll]
theorem okAll_one (x1 x2 : ByteArray) : okAll [(x1, x2)] = (readQ x1 x2).isSome := by simp [okAll]
theorem check_ok (s : Nat → ByteArray) : checkT true s = (s, 0) := rfl
theorem check_no (s : Nat → ByteArray) : checkT false s = (s, 40) := rfl
theorem okE_no {z : Int} (h : ¬ Fits z) : okE z ≠ 0 := by unfold okE; rw [if_neg h]; decide
theorem mul_ints {a b : Int} (ha : Fits a) (hb : Fits b) : op2 mulF (intB a) (intB b) = (okS (a * b), okE (a * b)) := op2_ints ha hb
theorem mul_fits {a b : Int} (ha : Fits a) (hb : Fits b) (h : Fits (a * b)) : op2 mulF (intB a) (intB b) = (intB (a * b), 0) := by rw [mul_ints ha hb, okS_fits h, okE_fits h]
theorem seq_err {t : (Nat → ByteArray) → (Nat → ByteArray) × Int} {ts : List ((Nat → ByteArray) → (Nat → ByteArray) × Int)} {s : Nat → ByteArray} (h : (t s).2 ≠ 0) : (seqT (t :: ts) s).2 ≠ 0 := by rw [seq_cons, run_stop _ _ h]; exact h
theorem seq_step {t : (Nat → ByteArray) → (Nat → ByteArray) × Int} {ts : List ((Nat → ByteArray) → (Nat → ByteArray) × Int)} {s s1 : Nat → ByteArray} (h : t s = (s1, 0)) : seqT (t :: ts) s = seqT ts s1 := by rw [seq_cons, h]; rfl
theorem lift2_none1 {ok : Rat → Rat → Prop} [∀ a b, Decidable (ok a b)] {op : Rat → Rat → Rat} {y : Option Rat} : lift2 ok op none y = none := rfl
theorem lift2_none2 {ok : Rat → Rat → Prop} [∀ a b, Decidable (ok a b)] {op : Rat → Rat → Rat} {x : Option Rat} : lift2 ok op x none = none := by cases x <;> rfl
theorem mul_pure {n d c : Nat} (hnd : n ≠ d) (hcn : c ≠ n) (hcd : c ≠ d) (x1 x2 y1 y2 : ByteArray) (s : Nat → ByteArray) :
    doneT (builtT [checkT (okAll [(x1, x2), (y1, y2)]), setT n (op2 mulF) (fun _ => x1) (fun _ => y1), setT d (op2 mulF) (fun _ => x2) (fun _ => y2)] n d c s) n d = resT (mulQ (readQ x1 x2) (readQ y1 y2)) := by
  rw [okAll_two]
  rcases readQ_isSome (n := x1) (d := x2) with h1 | ⟨p, h1, rfl, rfl, fp⟩
  · rw [h1, mulQ, lift2_none1]; exact built_err (seq_err (show (40 : Int) ≠ 0 by decide))
  · rcases readQ_isSome (n := y1) (d := y2) with h2 | ⟨q, h2, rfl, rfl, fq⟩
    · rw [h1, h2, mulQ, lift2_none2]; exact built_err (seq_err (show (40 : Int) ≠ 0 by decide))
    · rw [h1, h2, show ((some p).isSome && (some q).isSome) = true from rfl]
      by_cases c1 : Fits (p.num * q.num)
      · by_cases c2 : Fits ((p.den : Int) * q.den)
        · rw [mul_make ⟨c1, c2⟩]
          rw [built_ok hnd hcn hcd (s1 := upd (upd s n (intB (p.num * q.num))) d (intB (p.den * q.den))) (by
            rw [seq_step (check_ok s), seq_step (set_eq rfl rfl (mul_fits fp.1 fq.1 c1)), seq_step (set_eq rfl rfl (mul_fits fp.2 fq.2 c2))]; rfl)]
          rw [upd_other _ _ hnd, upd_same, upd_same, readI_int c1, readI_int c2]
        · rw [mulQ, lift2_no (fun k => c2 k.2)]
          refine built_err ?_
          rw [seq_step (check_ok s), seq_step (set_eq rfl rfl (mul_fits fp.1 fq.1 c1))]
          refine seq_err ?_
          rw [set_eq rfl rfl (mul_ints fp.2 fq.2)]; exact okE_no c2
      · rw [mulQ, lift2_no (fun k => c1 k.1)]
        refine built_err ?_
        rw [seq_step (check_ok s)]
        refine seq_err ?_
        rw [set_eq rfl rfl (mul_ints fp.1 fq.1)]; exact okE_no c1
theorem div_pure {n d c : Nat} (hnd : n ≠ d) (hcn : c ≠ n) (hcd : c ≠ d) (x1 x2 y1 y2 : ByteArray) (s : Nat → ByteArray) :
    doneT (builtT [checkT (okAll [(x1, x2), (y1, y2)]), setT n (op2 mulF) (fun _ => x1) (fun _ => y2), setT d (op2 mulF) (fun _ => x2) (fun _ => y1)] n d c s) n d = resT (divQ (readQ x1 x2) (readQ y1 y2)) := by
  rw [okAll_two]
  rcases readQ_isSome (n := x1) (d := x2) with h1 | ⟨p, h1, rfl, rfl, fp⟩
  · rw [h1, divQ, lift2_none1]; exact built_err (seq_err (show (40 : Int) ≠ 0 by decide))
  · rcases readQ_isSome (n := y1) (d := y2) with h2 | ⟨q, h2, rfl, rfl, fq⟩
    · rw [h1, h2, divQ, lift2_none2]; exact built_err (seq_err (show (40 : Int) ≠ 0 by decide))
    · rw [h1, h2, show ((some p).isSome && (some q).isSome) = true from rfl]
      by_cases c1 : Fits (p.num * q.den)
      · by_cases c2 : Fits ((p.den : Int) * q.num)
        · rw [div_make c1 c2]
          rw [built_ok hnd hcn hcd (s1 := upd (upd s n (intB (p.num * q.den))) d (intB (p.den * q.num))) (by
            rw [seq_step (check_ok s), seq_step (set_eq rfl rfl (mul_fits fp.1 fq.2 c1)), seq_step (set_eq rfl rfl (mul_fits fp.2 fq.1 c2))]; rfl)]
          rw [upd_other _ _ hnd, upd_same, upd_same, readI_int c1, readI_int c2]
        · rw [divQ, lift2_no (fun k => c2 k.2.2)]
          refine built_err ?_
          rw [seq_step (check_ok s), seq_step (set_eq rfl rfl (mul_fits fp.1 fq.2 c1))]
          refine seq_err ?_
          rw [set_eq rfl rfl (mul_ints fp.2 fq.1)]; exact okE_no c2
      · rw [divQ, lift2_no (fun k => c1 k.2.1)]
        refine built_err ?_
        rw [seq_step (check_ok s)]
        refine seq_err ?_
        rw [set_eq rfl rfl (mul_ints fp.1 fq.2)]; exact okE_no c1
/-- Sums and differences: what is asked of the operation. -/
structure SumOp (f : Int → Int → ByteArray × Int) (g : Int → Int → Int) (Q : Option Rat → Option Rat → Option Rat) : Prop where
  val : ∀ a b, f a b = (okS (g a b), okE (g a b))
  n1 : ∀ y, Q none y = none
  n2 : ∀ x, Q x none = none
  ok : ∀ p q : Rat, Fits (p.num * q.den) → Fits (q.num * p.den) → Fits ((p.den : Int) * q.den) → Fits (g (p.num * q.den) (q.num * p.den)) → Q (some p) (some q) = makeQ (some (g (p.num * q.den) (q.num * p.den))) (some (p.den * q.den))
  no : ∀ p q : Rat, ¬ (Fits (p.num * q.den) ∧ Fits (q.num * p.den) ∧ Fits ((p.den : Int) * q.den) ∧ Fits (g (p.num * q.den) (q.num * p.den))) → Q (some p) (some q) = none
theorem sum_add : SumOp addF (· + ·) addQ := ⟨fun _ _ => rfl, fun _ => rfl, fun x => by cases x <;> rfl, fun _ _ h1 h2 h3 h4 => add_make ⟨h1, h2, h3, h4⟩, fun _ _ h => lift2_no h⟩
theorem sum_sub : SumOp subF (· - ·) subQ := ⟨fun _ _ => rfl, fun _ => rfl, fun x => by cases x <;> rfl, fun _ _ h1 h2 h3 h4 => sub_make ⟨h1, h2, h3, h4⟩, fun _ _ h => lift2_no h⟩
theorem sum_pure {f : Int → Int → ByteArray × Int} {g : Int → Int → Int} {Q : Option Rat → Option Rat → Option Rat} (H : SumOp f g Q) {l r n d c : Nat} (hlr : l ≠ r) (hnd : n ≠ d) (hcn : c ≠ n) (hcd : c ≠ d) (x1 x2 y1 y2 : ByteArray) (s : Nat → ByteArray) :
    doneT (builtT [checkT (okAll [(x1, x2), (y1, y2)]), setT l (op2 mulF) (fun _ => x1) (fun _ => y2), setT r (op2 mulF) (fun _ => y1) (fun _ => x2), setT n (op2 f) (fun s => s l) (fun s => s r), setT d (op2 mulF) (fun _ => x2) (fun _ => y2)] n d c s) n d = resT (Q (readQ x1 x2) (readQ y1 y2)) := by
  rw [okAll_two]
  rcases readQ_isSome (n := x1) (d := x2) with h1 | ⟨p, h1, rfl, rfl, fp⟩
  · rw [h1, H.n1]; exact built_err (seq_err (show (40 : Int) ≠ 0 by decide))
  · rcases readQ_isSome (n := y1) (d := y2) with h2 | ⟨q, h2, rfl, rfl, fq⟩
    · rw [h1, h2, H.n2]; exact built_err (seq_err (show (40 : Int) ≠ 0 by decide))
    · rw [h1, h2, show ((some p).isSome && (some q).isSome) = true from rfl]
      by_cases c1 : Fits (p.num * q.den)
      · by_cases c2 : Fits (q.num * p.den)
        · by_cases c4 : Fits (g (p.num * q.den) (q.num * p.den))
          · have e4 : op2 f (intB (p.num * q.den)) (intB (q.num * p.den)) = (intB (g (p.num * q.den) (q.num * p.den)), 0) := by
              rw [op2_ints c1 c2, H.val, okS_fits c4, okE_fits c4]
            have hs : setT n (op2 f) (fun s => s l) (fun s => s r) (upd (upd s l (intB (p.num * q.den))) r (intB (q.num * p.den))) = (upd (upd (upd s l (intB (p.num * q.den))) r (intB (q.num * p.den))) n (intB (g (p.num * q.den) (q.num * p.den))), 0) :=
              set_eq ((upd_other _ _ hlr).trans (upd_same ..)) (upd_same ..) e4
            by_cases c3 : Fits ((p.den : Int) * q.den)
            · rw [H.ok p q c1 c2 c3 c4]
              rw [built_ok hnd hcn hcd (s1 := upd (upd (upd (upd s l (intB (p.num * q.den))) r (intB (q.num * p.den))) n (intB (g (p.num * q.den) (q.num * p.den)))) d (intB (p.den * q.den))) (by
                rw [seq_step (check_ok s), seq_step (set_eq rfl rfl (mul_fits fp.1 fq.2 c1)), seq_step (set_eq rfl rfl (mul_fits fq.1 fp.2 c2)), seq_step hs, seq_step (set_eq rfl rfl (mul_fits fp.2 fq.2 c3))]; rfl)]
              rw [upd_other _ _ hnd, upd_same, upd_same, readI_int c4, readI_int c3]
            · rw [H.no p q (fun k => c3 k.2.2.1)]
              refine built_err ?_
              rw [seq_step (check_ok s), seq_step (set_eq rfl rfl (mul_fits fp.1 fq.2 c1)), seq_step (set_eq rfl rfl (mul_fits fq.1 fp.2 c2)), seq_step hs]
              refine seq_err ?_
              rw [set_eq rfl rfl (mul_ints fp.2 fq.2)]; exact okE_no c3
          · rw [H.no p q (fun k => c4 k.2.2.2)]
            refine built_err ?_
            rw [seq_step (check_ok s), seq_step (set_eq rfl rfl (mul_fits fp.1 fq.2 c1)), seq_step (set_eq rfl rfl (mul_fits fq.1 fp.2 c2))]
            refine seq_err ?_
            rw [set_eq ((upd_other _ _ hlr).trans (upd_same ..)) (upd_same ..) ((op2_ints c1 c2).trans (H.val _ _))]; exact okE_no c4
        · rw [H.no p q (fun k => c2 k.2.1)]
          refine built_err ?_
          rw [seq_step (check_ok s), seq_step (set_eq rfl rfl (mul_fits fp.1 fq.2 c1))]
          refine seq_err ?_
          rw [set_eq rfl rfl (mul_ints fq.1 fp.2)]; exact okE_no c2
      · rw [H.no p q (fun k => c1 k.1)]
        refine built_err ?_
        rw [seq_step (check_ok s)]
        refine seq_err ?_
        rw [set_eq rfl rfl (mul_ints fp.1 fq.2)]; exact okE_no c1
end Go.Proofs.YtelckldddflmmaaGreatDoor
