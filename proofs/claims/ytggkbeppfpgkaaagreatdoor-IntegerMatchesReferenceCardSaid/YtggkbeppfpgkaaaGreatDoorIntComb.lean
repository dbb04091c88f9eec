/- The contract of combined, and of the functions that call it. -/
import Derived.Test.YtggkbeppfpgkaaaGreatDoorIntBoth
namespace Go.Proofs.YtggkbeppfpgkaaaGreatDoor
open Go.RowKit Putlog

theorem intB_small {z : Int} (h : z.natAbs < 10000 ^ 250) : (intB z).size ≤ 4 * 250 + 1 := intT_size (by rw [show (10000 : Nat) = 10 ^ 4 from rfl, ← Nat.pow_mul] at h; exact h) (by decide)
theorem validB (z : Int) (h : z.natAbs < 10000 ^ 250) (W : World) : Calls Tryz.prog 21 #[.string (intB z)] W fun e w' => e = .returned (.bool (decide (Fits z))) ∧ w' = W := by
  have h1 := intB_small h
  have h2 := valid_any (intB z) (by omega) W
  have h3 : validT (intB z).data.toList = decide (Fits z) := by
    rw [intB_list]
    by_cases hf : Fits z
    · rw [(validT_int z).2 hf]; simp [hf]
    · have : validT (intT z) = false := by rw [Bool.eq_false_iff]; exact fun k => hf ((validT_int z).1 k)
      rw [this]; simp [hf]
  rwa [h3] at h2
/-- The boxes of two numbers, and what is read of them. -/
theorem boxes_made {w : World} {x1 x2 y1 y2 : Value} : Below w.heap.size w ((w.alloc (.cells #[x1, x2] 47)).alloc (.cells #[y1, y2] 47)) ∧
    ((w.alloc (.cells #[x1, x2] 47)).alloc (.cells #[y1, y2] 47)).heap[w.heap.size]? = some (.cells #[x1, x2] 47 (0, 0)) ∧
    ((w.alloc (.cells #[x1, x2] 47)).alloc (.cells #[y1, y2] 47)).heap[w.heap.size + 1]? = some (.cells #[y1, y2] 47 (0, 0)) := by
  have h1 := heap_alloc_new w (.cells #[x1, x2] 47)
  have b1 := alloc_below w (.cells #[x1, x2] 47)
  have s1 := alloc_size w (.cells #[x1, x2] 47)
  generalize w.alloc (.cells #[x1, x2] 47) = w1 at *
  have h2 := heap_alloc_new w1 (.cells #[y1, y2] 47)
  rw [s1] at h2
  exact ⟨belowVia (alloc_below _ _) b1, heap_below (alloc_below _ _) h1, h2⟩
set_option maxRecDepth 100000 in
set_option maxHeartbeats 4000000 in
theorem comb_ok {g : Nat} (eg : ∀ args w, (callFunc g args).run Tryz.prog w = .ok (.enter g args) w) (x y z : Int) (hx : Fits x) (hy : Fits y) (hz : z.natAbs < 10000 ^ 250)
    (hop : ∀ u v W, NumAt W u x → NumAt W v y → Calls Tryz.prog g #[u, v] W fun e w' => (∃ r, e = .returned r ∧ NumAt w' r z) ∧ Below W.heap.size W w') (w : World) :
    Calls Tryz.prog 28 #[.string (intB x), .string (intB y), .func (.func g) #[] #[]] w (GivesInt (okS z) (okE z) w) := by
  have HB := Lib.hid (both_ok x y hx hy)
  have HT := Lib.hid (fun v W hv => ntext z hz v W hv)
  have HV := Lib.hid (validB z hz)
  have HO := Lib.hid hop
  generalize intB x = s at *
  generalize intB y = t at *
  have hOK : okS z = if Fits z then intB z else ⟨#[]⟩ := rfl
  have hOE : okE z = if Fits z then 0 else 30 := rfl
  generalize intB z = r at *
  clear hx hy hz hop
  by_cases hf : Fits z
  · have hd : decide (Fits z) = true := by simp [hf]
    rw [hd] at HV
    rw [if_pos hf] at hOK hOE
    rw [hOK, hOE]
    clear hOK hOE hd hf
    go_enter Tryz.func28, Tryz.ntmps28
    go_wp2_with fail
    refine (HB.out w).mono ?_
    rintro e w1 ⟨⟨u, v, rfl, hu, hv⟩, hB1⟩
    have HU := Lib.hid hu
    have HVV := Lib.hid hv
    obtain ⟨a, ca, rfl, _, _⟩ := hu
    obtain ⟨b, cb, rfl, _, _⟩ := hv
    generalize (digsL 10000 x.natAbs).length = n at *
    generalize (digsL 10000 y.natAbs).length = m at *
    generalize decide (x < 0) = sx at *
    generalize decide (y < 0) = sy at *
    obtain ⟨hb, hc1, hc2⟩ := boxes_made (w := w1) (x1 := .bool sx) (x2 := .slice a n ca) (y1 := .bool sy) (y2 := .slice b m cb)
    obtain ⟨k1, k2, _, _⟩ := heap_cells hc1
    obtain ⟨k3, k4, _, _⟩ := heap_cells hc2
    have HU2 := Lib.hid (HU.out.via hb)
    have HV2 := Lib.hid (HVV.out.via hb)
    have HB2 := Lib.hid (belowVia hb hB1)
    clear hb hc1 hc2 HU HVV hB1
    go_wp2_with fail
    refine (HO.out _ _ _ HU2.out HV2.out).mono ?_
    rintro e w2 ⟨⟨rr, rfl, hn⟩, hB3⟩
    have HB3 := Lib.hid (belowVia hB3 HB2.out)
    clear hB3
    go_wp2_with fail
    refine (HT.out _ _ hn).mono ?_
    rintro e w3 ⟨rfl, hB4⟩
    go_wp2_with fail
    refine (HV.out w3).mono ?_
    rintro e w4 ⟨rfl, rfl⟩
    go_wp2_with fail
    go_ret2
    exact ⟨rfl, belowVia hB4 HB3.out⟩
  · have hd : decide (Fits z) = false := by simp [hf]
    rw [hd] at HV
    rw [if_neg hf] at hOK hOE
    rw [hOK, hOE]
    clear hOK hOE hd hf
    go_enter Tryz.func28, Tryz.ntmps28
    go_wp2_with fail
    refine (HB.out w).mono ?_
    rintro e w1 ⟨⟨u, v, rfl, hu, hv⟩, hB1⟩
    have HU := Lib.hid hu
    have HVV := Lib.hid hv
    obtain ⟨a, ca, rfl, _, _⟩ := hu
    obtain ⟨b, cb, rfl, _, _⟩ := hv
    generalize (digsL 10000 x.natAbs).length = n at *
    generalize (digsL 10000 y.natAbs).length = m at *
    generalize decide (x < 0) = sx at *
    generalize decide (y < 0) = sy at *
    obtain ⟨hb, hc1, hc2⟩ := boxes_made (w := w1) (x1 := .bool sx) (x2 := .slice a n ca) (y1 := .bool sy) (y2 := .slice b m cb)
    obtain ⟨k1, k2, _, _⟩ := heap_cells hc1
    obtain ⟨k3, k4, _, _⟩ := heap_cells hc2
    have HU2 := Lib.hid (HU.out.via hb)
    have HV2 := Lib.hid (HVV.out.via hb)
    have HB2 := Lib.hid (belowVia hb hB1)
    clear hb hc1 hc2 HU HVV hB1
    go_wp2_with fail
    refine (HO.out _ _ _ HU2.out HV2.out).mono ?_
    rintro e w2 ⟨⟨rr, rfl, hn⟩, hB3⟩
    have HB3 := Lib.hid (belowVia hB3 HB2.out)
    clear hB3
    go_wp2_with fail
    refine (HT.out _ _ hn).mono ?_
    rintro e w3 ⟨rfl, hB4⟩
    go_wp2_with fail
    refine (HV.out w3).mono ?_
    rintro e w4 ⟨rfl, rfl⟩
    go_wp2_with fail
    go_ret2
    exact ⟨rfl, belowVia hB4 HB3.out⟩
set_option maxRecDepth 100000 in
set_option maxHeartbeats 4000000 in
theorem comb_no (s t : ByteArray) (f : Value) (w : World) (h : Calls Tryz.prog 36 #[.string s, .string t] w fun e w' => e = .returned (.tuple #[.agg #[.bool false, .slice none 0 0], .agg #[.bool false, .slice none 0 0], .bool false]) ∧ Below w.heap.size w w') :
    Calls Tryz.prog 28 #[.string s, .string t, f] w (GivesInt ⟨#[]⟩ 30 w) := by
  have HB := Lib.hid h
  clear h
  go_enter Tryz.func28, Tryz.ntmps28
  go_wp2_with fail
  refine HB.out.mono ?_
  rintro e w1 ⟨rfl, hB1⟩
  go_wp2_with fail
  go_ret2
  exact ⟨rfl, belowVia ((alloc_below _ _).alloc (by simp) _) hB1⟩
/-- What two texts are: two integers, or one of them is none. -/
theorem both_cases (s t : ByteArray) (hs : (s.size : Int) ≤ 9223372036854775807) (ht : (t.size : Int) ≤ 9223372036854775807) :
    (∃ x y, s = intB x ∧ t = intB y ∧ Fits x ∧ Fits y) ∨ (validT s.data.toList && validT t.data.toList) = false ∧ ∀ w, Calls Tryz.prog 36 #[.string s, .string t] w fun e w' => e = .returned (.tuple #[.agg #[.bool false, .slice none 0 0], .agg #[.bool false, .slice none 0 0], .bool false]) ∧ Below w.heap.size w w' := by
  have hback : ∀ s : ByteArray, validT s.data.toList = true → ∃ x, s = intB x ∧ Fits x := fun s h => by
    obtain ⟨x, h1, h2⟩ := validT_some h
    exact ⟨x, by show s = ⟨(intT x).toArray⟩; rw [← h1], h2⟩
  by_cases h1 : validT s.data.toList = true
  · obtain ⟨x, rfl, hx⟩ := hback s h1
    by_cases h2 : validT t.data.toList = true
    · obtain ⟨y, rfl, hy⟩ := hback t h2
      exact .inl ⟨x, y, rfl, rfl, hx, hy⟩
    · have h2 := Bool.eq_false_iff.2 h2
      exact .inr ⟨by rw [h2, Bool.and_false], fun w => both_no2 x t hx ht h2 w⟩
  · have h1 := Bool.eq_false_iff.2 h1
    exact .inr ⟨by rw [h1, Bool.false_and], fun w => both_no1 s t hs h1 w⟩
set_option maxRecDepth 100000 in
set_option maxHeartbeats 4000000 in
theorem add_any (s t x : ByteArray) (k : Int) (w : World) (h : Calls Tryz.prog 28 #[.string s, .string t, .func (.func 29) #[] #[]] w (GivesInt x k w)) :
    Calls Tryz.prog 7 #[.string s, .string t] w (GivesInt x k w) := by
  have H := Lib.hid h
  clear h
  go_enter Tryz.func7, Tryz.ntmps7
  go_wp2_with fail
  refine H.out.mono ?_
  rintro e w1 ⟨rfl, hB1⟩
  go_wp2_with fail
  go_ret2
  exact ⟨rfl, hB1⟩
set_option maxRecDepth 100000 in
set_option maxHeartbeats 4000000 in
theorem sub_any (s t x : ByteArray) (k : Int) (w : World) (h : Calls Tryz.prog 28 #[.string s, .string t, .func (.func 32) #[] #[]] w (GivesInt x k w)) :
    Calls Tryz.prog 9 #[.string s, .string t] w (GivesInt x k w) := by
  have H := Lib.hid h
  clear h
  go_enter Tryz.func9, Tryz.ntmps9
  go_wp2_with fail
  refine H.out.mono ?_
  rintro e w1 ⟨rfl, hB1⟩
  go_wp2_with fail
  go_ret2
  exact ⟨rfl, hB1⟩
set_option maxRecDepth 100000 in
set_option maxHeartbeats 4000000 in
theorem mul_any (s t x : ByteArray) (k : Int) (w : World) (h : Calls Tryz.prog 28 #[.string s, .string t, .func (.func 33) #[] #[]] w (GivesInt x k w)) :
    Calls Tryz.prog 11 #[.string s, .string t] w (GivesInt x k w) := by
  have H := Lib.hid h
  clear h
  go_enter Tryz.func11, Tryz.ntmps11
  go_wp2_with fail
  refine H.out.mono ?_
  rintro e w1 ⟨rfl, hB1⟩
  go_wp2_with fail
  go_ret2
  exact ⟨rfl, hB1⟩
set_option maxRecDepth 100000 in
set_option maxHeartbeats 4000000 in
theorem gcd_call (s t x : ByteArray) (k : Int) (w : World) (h : Calls Tryz.prog 28 #[.string s, .string t, .func (.func 43) #[] #[]] w (GivesInt x k w)) :
    Calls Tryz.prog 15 #[.string s, .string t] w (GivesInt x k w) := by
  have H := Lib.hid h
  clear h
  go_enter Tryz.func15, Tryz.ntmps15
  go_wp2_with fail
  refine H.out.mono ?_
  rintro e w1 ⟨rfl, hB1⟩
  go_wp2_with fail
  go_ret2
  exact ⟨rfl, hB1⟩
set_option maxRecDepth 100000 in
set_option maxHeartbeats 4000000 in
theorem gcd1_any (x y : Int) (hx : x.natAbs < 10000 ^ 250) (hy : y.natAbs < 10000 ^ 250) (u v : Value) (w : World) (hu : NumAt w u x) (hv : NumAt w v y) :
    Calls Tryz.prog 43 #[u, v] w fun e w' => (∃ r, e = .returned r ∧ NumAt w' r (Int.gcd x y : Nat)) ∧ Below w.heap.size w w' := by
  obtain ⟨a, ca, rfl, hra, hca⟩ := hu
  obtain ⟨b, cb, rfl, hrb, hcb⟩ := hv
  have hgb : Nat.gcd x.natAbs y.natAbs < 10000 ^ 250 := by
    rcases Nat.eq_zero_or_pos x.natAbs with h | h
    · rw [h, Nat.gcd_zero_left]; exact hy
    · exact Nat.lt_of_le_of_lt (Nat.le_of_dvd h (Nat.gcd_dvd_left _ _)) hx
  have HP := Lib.hid (fun W hu hv => gcd_any x.natAbs y.natAbs hx hy _ _ W (MagAt.via hu (mag_of_num hra hca)) (MagAt.via hv (mag_of_num hrb hcb)))
  have HS := Lib.hid (fun sv W hm => signed_any false (Nat.gcd x.natAbs y.natAbs) sv W hgb hm)
  have hz : sgn false (Nat.gcd x.natAbs y.natAbs) = (Int.gcd x y : Nat) := rfl
  obtain ⟨z, hzz⟩ : ∃ z : Int, z = (Int.gcd x y : Nat) := ⟨_, rfl⟩
  rw [hz, ← hzz] at HS
  rw [← hzz]
  generalize (digsL 10000 x.natAbs).length = n at *
  generalize (digsL 10000 y.natAbs).length = m at *
  generalize decide (x < 0) = sx at *
  generalize decide (y < 0) = sy at *
  clear hx hy hgb hz hzz
  go_enter Tryz.func43, Tryz.ntmps43
  go_wp2_with fail
  have hbx := box3_made w (.bool sx) (.slice a n ca) (.bool sy) (.slice b m cb)
  generalize World.alloc (World.alloc _ _) _ = W at hbx ⊢
  refine (HP.out W hbx.bel hbx.bel).mono ?_
  rintro e w1 ⟨⟨r1, rfl, hm1⟩, hB1⟩
  have hbx := hbx.via hB1
  go_wp2_with fail
  refine (HS.out _ _ hm1).mono ?_
  rintro e w2 ⟨⟨r2, rfl, hn2⟩, hB2⟩
  obtain ⟨a9, c9, rfl, hr9, hc9⟩ := hn2
  have hbx2 := hbx.via hB2
  obtain ⟨hq1, hq2, hf1, hf2⟩ := heap_cells hbx2.r
  clear hbx hB1 hB2
  go_wp2_with fail
  refine bodyPost_ret (results_n rfl _ _ (w.heap.size + 1 + 1) _ _ rfl hbx2.res) rfl ?_
  exact ⟨⟨_, rfl, a9, c9, rfl, hr9, cells_res hc9 hbx2.r⟩, below_res hbx2.bel (by omega) _ _⟩
end Go.Proofs.YtggkbeppfpgkaaaGreatDoor
