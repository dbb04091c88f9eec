/- The reference's Add, Sub, Mul, Compare, Div and Gcd, on valid integers and on other texts. -/
import Derived.Test.YtggkbeppfpgkaaaGreatDoorIntRefDiv
import Derived.Test.YtggkbeppfpgkaaaGreatDoorIntRefRead
import Derived.Test.YtggkbeppfpgkaaaGreatDoorIntExp
namespace Go.Proofs.YtggkbeppfpgkaaaGreatDoor
open Go.RowKit Putlog

theorem sgn_fits (neg : Bool) (n : Nat) : Fits (sgn neg n) ↔ (digsL 10 n).length ≤ 200 := by
  rw [digsL_len (by decide)]
  unfold Fits sgn
  cases neg <;> simp
theorem sgn_of (z : Int) : sgn (decide (z < 0)) z.natAbs = z := by
  unfold sgn
  by_cases h : z < 0
  · rw [if_pos (by simpa using h)]; omega
  · rw [if_neg (by simpa using h)]; omega
theorem sgn_neg (z : Int) : sgn (!decide (z < 0)) z.natAbs = -z := by
  unfold sgn
  by_cases h : z < 0
  · rw [if_neg (by simpa using h)]; omega
  · rw [if_pos (by simpa using h)]; omega
theorem ten_sgnmul (x y : Int) : sgn (decide (x < 0) != decide (y < 0)) (x.natAbs * y.natAbs) = x * y := by
  have h3 : ((x.natAbs * y.natAbs : Nat) : Int) = (x.natAbs : Int) * (y.natAbs : Int) := Int.natCast_mul _ _
  unfold sgn
  by_cases h : x < 0 <;> by_cases k : y < 0
  · have e1 : (x.natAbs : Int) = -x := by omega
    have e2 : (y.natAbs : Int) = -y := by omega
    rw [if_neg (by simp [h, k]), h3, e1, e2, Int.neg_mul_neg]
  · have e1 : (x.natAbs : Int) = -x := by omega
    have e2 : (y.natAbs : Int) = y := by omega
    rw [if_pos (by simp [h]; omega), h3, e1, e2, Int.neg_mul, Int.neg_neg]
  · have e1 : (x.natAbs : Int) = x := by omega
    have e2 : (y.natAbs : Int) = -y := by omega
    rw [if_pos (by simp [k]; omega), h3, e1, e2, Int.mul_neg, Int.neg_neg]
  · have e1 : (x.natAbs : Int) = x := by omega
    have e2 : (y.natAbs : Int) = y := by omega
    rw [if_neg (by simp; omega), h3, e1, e2]
theorem fits_len {z : Int} (h : Fits z) : (digsL 10 z.natAbs).length ≤ 200 := (digsL_len (by decide) _ _).2 h
theorem fits_size {z : Int} (h : Fits z) : ((intB z).size : Int) ≤ 9223372036854775807 := by have := intT_size h (by decide); omega
theorem rvalid_int (z : Int) (h : Fits z) (w : World) : Calls Tryz.prog 22 #[.string (intB z)] w fun e w' => e = .returned (.bool true) ∧ w' = w := by
  have h2 := rvalid_any (intB z) (fits_size h) w
  have h3 : validT (intB z).data.toList = true := by
    show validT (intT z).toArray.toList = true
    rw [List.toList_toArray]; exact (validT_int z).2 h
  rwa [h3] at h2
set_option maxRecDepth 100000 in
set_option maxHeartbeats 2000000 in
theorem rchecked_any (neg : Bool) (n : Nat) (hn : (digsL 10 n).length ≤ 5000) (v : Value) (w : World) (hv : NumsAt w v (digsL 10 n)) :
    Calls Tryz.prog 34 #[.bool neg, v] w (GivesInt (okS (sgn neg n)) (okE (sgn neg n)) w) := by
  have hT := rtext_any neg (digsL 10 n) (by omega) (digsL_dig (by decide) n) (digsL_norm (by decide) n) v w hv
  rw [leV_digsL (by decide)] at hT
  unfold GivesInt
  by_cases hf : (digsL 10 n).length ≤ 200
  · rw [okS_fits ((sgn_fits neg n).2 hf), okE_fits ((sgn_fits neg n).2 hf)]
    rw [show decide (((digsL 10 n).length : Int) ≤ 200) = true by simp; omega] at hT
    have HT := Lib.hid hT
    obtain ⟨_, _, rfl, _⟩ := hv
    clear hT hf
    generalize intB (sgn neg n) = s at *
    go_enter Tryz.func34, Tryz.ntmps34
    go_wp2_with fail
    refine HT.out.mono ?_
    rintro e w1 ⟨rfl, hB⟩
    have HB := Lib.hid hB
    clear hB
    go_wp2_with fail
    go_ret2
    exact ⟨rfl, HB.out⟩
  · have hnf : ¬ Fits (sgn neg n) := fun h => hf ((sgn_fits neg n).1 h)
    rw [show okS (sgn neg n) = ⟨#[]⟩ from if_neg hnf, show okE (sgn neg n) = 30 from if_neg hnf]
    rw [show decide (((digsL 10 n).length : Int) ≤ 200) = false by simp; omega] at hT
    have HT := Lib.hid hT
    obtain ⟨_, _, rfl, _⟩ := hv
    clear hT hf hnf
    generalize intB (sgn neg n) = s at *
    go_enter Tryz.func34, Tryz.ntmps34
    go_wp2_with fail
    refine HT.out.mono ?_
    rintro e w1 ⟨rfl, hB⟩
    have HB := Lib.hid hB
    clear hB
    go_wp2_with fail
    go_ret2
    exact ⟨rfl, HB.out⟩

set_option maxRecDepth 100000 in
set_option maxHeartbeats 4000000 in
theorem rsum_any (p q : Bool) (a b : Nat) (ha : (digsL 10 a).length ≤ 1000) (hb : (digsL 10 b).length ≤ 1000) (u v : Value) (w : World) (hu : NumsAt w u (digsL 10 a)) (hv : NumsAt w v (digsL 10 b)) :
    Calls Tryz.prog 31 #[.bool p, u, .bool q, v] w (GivesInt (okS (sgn p a + sgn q b)) (okE (sgn p a + sgn q b)) w) := by
  have HU := Lib.hid hu
  have HV := Lib.hid hv
  by_cases hpq : p = q
  · subst hpq
    have hz : sgn p a + sgn p b = sgn p (a + b) := by cases p <;> simp [sgn] <;> omega
    rw [hz]
    have HP := Lib.hid (rplusN a b (by omega) (by omega) u v w hu hv)
    have HC := Lib.hid (fun v W h => rchecked_any p (a + b) (by have := dlen_add ha hb; omega) v W h)
    obtain ⟨_, _, rfl, _⟩ := hu
    obtain ⟨_, _, rfl, _⟩ := hv
    have hpp : (p == p) = true := by simp
    clear hz ha hb
    unfold GivesInt at *
    go_enter Tryz.func31, Tryz.ntmps31
    go_wp2_with fail
    refine HP.out.mono ?_
    rintro e w1 ⟨⟨r, rfl, hr⟩, hB1⟩
    have HR := Lib.hid hr
    have HB1 := Lib.hid hB1
    obtain ⟨_, _, rfl, _⟩ := hr
    clear hB1
    go_wp2_with fail
    refine (HC.out _ _ HR.out).mono ?_
    rintro e w2 ⟨rfl, hB2⟩
    have HB2 := Lib.hid (belowVia hB2 HB1.out)
    clear hB2
    go_wp2_with fail
    go_ret2
    exact ⟨rfl, HB2.out⟩
  · have hqp : q = !p := by cases p <;> cases q <;> simp at hpq ⊢
    subst hqp
    have hpp : (p == !p) = false := by cases p <;> rfl
    obtain ⟨kk, hkk⟩ : ∃ kk, kk = cmpI (a : Nat) (b : Nat) := ⟨_, rfl⟩
    have hkb : -1 ≤ kk ∧ kk ≤ 1 := by rw [hkk]; unfold cmpI; split <;> (try split) <;> omega
    obtain ⟨hkb1, hkb2⟩ := hkb
    have hO := rcmpN a b (by omega) (by omega) u v w hu hv
    rw [← hkk] at hO
    have HO := Lib.hid hO
    clear hpq hO
    rcases Nat.lt_or_ge a b with hab | hab
    · have hk0 : kk < 0 := by rw [hkk]; unfold cmpI; rw [if_pos (by omega)]; omega
      have hz : sgn p a + sgn (!p) b = sgn (!p) (b - a) := by cases p <;> simp [sgn] <;> omega
      rw [hz]
      have HM := Lib.hid (fun W hu hv => rminusN b a (by omega) (by omega) v u W hv hu)
      have HC := Lib.hid (fun v W h => rchecked_any (!p) (b - a) (by have := dlen_mono (Nat.sub_le b a) hb; omega) v W h)
      obtain ⟨_, _, rfl, _⟩ := hu
      obtain ⟨_, _, rfl, _⟩ := hv
      clear hz ha hb hkk hab
      generalize (!p) = np at *
      unfold GivesInt at *
      go_enter Tryz.func31, Tryz.ntmps31
      go_wp2_with fail
      refine HO.out.mono ?_
      rintro e w0 ⟨rfl, hB0⟩
      have HB0 := Lib.hid hB0
      clear hB0
      go_wp2_with fail
      refine (HM.out _ (NumsAt.via HB0.out HU.out) (NumsAt.via HB0.out HV.out)).mono ?_
      rintro e w1 ⟨⟨r, rfl, hr, _⟩, hB1⟩
      have HR := Lib.hid hr
      have HB1 := Lib.hid (belowVia hB1 HB0.out)
      obtain ⟨_, _, rfl, _⟩ := hr
      clear hB1
      go_wp2_with fail
      refine (HC.out _ _ HR.out).mono ?_
      rintro e w2 ⟨rfl, hB2⟩
      have HB2 := Lib.hid (belowVia hB2 HB1.out)
      clear hB2
      go_wp2_with fail
      go_ret2
      exact ⟨rfl, HB2.out⟩
    · have hk0 : 0 ≤ kk := by rw [hkk]; unfold cmpI; rw [if_neg (by omega)]; split <;> omega
      have hz : sgn p a + sgn (!p) b = sgn p (a - b) := by cases p <;> simp [sgn] <;> omega
      rw [hz]
      have HM := Lib.hid (fun W hu hv => rminusN a b (by omega) (by omega) u v W hu hv)
      have HC := Lib.hid (fun v W h => rchecked_any p (a - b) (by have := dlen_mono (Nat.sub_le a b) ha; omega) v W h)
      obtain ⟨_, _, rfl, _⟩ := hu
      obtain ⟨_, _, rfl, _⟩ := hv
      clear hz ha hb hkk hab
      generalize (!p) = np at *
      unfold GivesInt at *
      go_enter Tryz.func31, Tryz.ntmps31
      go_wp2_with fail
      refine HO.out.mono ?_
      rintro e w0 ⟨rfl, hB0⟩
      have HB0 := Lib.hid hB0
      clear hB0
      go_wp2_with fail
      refine (HM.out _ (NumsAt.via HB0.out HU.out) (NumsAt.via HB0.out HV.out)).mono ?_
      rintro e w1 ⟨⟨r, rfl, hr, _⟩, hB1⟩
      have HR := Lib.hid hr
      have HB1 := Lib.hid (belowVia hB1 HB0.out)
      obtain ⟨_, _, rfl, _⟩ := hr
      clear hB1
      go_wp2_with fail
      refine (HC.out _ _ HR.out).mono ?_
      rintro e w2 ⟨rfl, hB2⟩
      have HB2 := Lib.hid (belowVia hB2 HB1.out)
      clear hB2
      go_wp2_with fail
      go_ret2
      exact ⟨rfl, HB2.out⟩

set_option maxRecDepth 100000 in
theorem radd_no (s t : ByteArray) (hs : (s.size : Int) ≤ 9223372036854775807) (ht : (t.size : Int) ≤ 9223372036854775807) (h : (validT s.data.toList && validT t.data.toList) = false) (w : World) :
    Calls Tryz.prog 8 #[.string s, .string t] w (GivesInt ⟨#[]⟩ 30 w) := by
  have hVs := rvalid_any s hs
  have hVt := rvalid_any t ht
  by_cases h1 : validT s.data.toList = true
  · have h2 : validT t.data.toList = false := by rw [h1] at h; simpa using h
    rw [h1] at hVs
    rw [h2] at hVt
    have HVS := Lib.hid hVs
    have HVT := Lib.hid hVt
    clear hVs hVt h1 h2 h
    go_enter Tryz.func8, Tryz.ntmps8
    go_wp2_with fail
    refine (HVS.out _).mono ?_
    rintro e w1 ⟨rfl, rfl⟩
    go_wp2_with fail
    refine (HVT.out _).mono ?_
    rintro e w1 ⟨rfl, rfl⟩
    go_wp2_with fail
    go_ret2
    exact ⟨rfl, Below.refl _ _⟩
  · rw [Bool.not_eq_true] at h1
    rw [h1] at hVs
    have HVS := Lib.hid hVs
    clear hVs hVt h1 h
    go_enter Tryz.func8, Tryz.ntmps8
    go_wp2_with fail
    refine (HVS.out _).mono ?_
    rintro e w1 ⟨rfl, rfl⟩
    go_wp2_with fail
    go_ret2
    exact ⟨rfl, Below.refl _ _⟩

set_option maxRecDepth 100000 in
theorem rsub_no (s t : ByteArray) (hs : (s.size : Int) ≤ 9223372036854775807) (ht : (t.size : Int) ≤ 9223372036854775807) (h : (validT s.data.toList && validT t.data.toList) = false) (w : World) :
    Calls Tryz.prog 10 #[.string s, .string t] w (GivesInt ⟨#[]⟩ 30 w) := by
  have hVs := rvalid_any s hs
  have hVt := rvalid_any t ht
  by_cases h1 : validT s.data.toList = true
  · have h2 : validT t.data.toList = false := by rw [h1] at h; simpa using h
    rw [h1] at hVs
    rw [h2] at hVt
    have HVS := Lib.hid hVs
    have HVT := Lib.hid hVt
    clear hVs hVt h1 h2 h
    go_enter Tryz.func10, Tryz.ntmps10
    go_wp2_with fail
    refine (HVS.out _).mono ?_
    rintro e w1 ⟨rfl, rfl⟩
    go_wp2_with fail
    refine (HVT.out _).mono ?_
    rintro e w1 ⟨rfl, rfl⟩
    go_wp2_with fail
    go_ret2
    exact ⟨rfl, Below.refl _ _⟩
  · rw [Bool.not_eq_true] at h1
    rw [h1] at hVs
    have HVS := Lib.hid hVs
    clear hVs hVt h1 h
    go_enter Tryz.func10, Tryz.ntmps10
    go_wp2_with fail
    refine (HVS.out _).mono ?_
    rintro e w1 ⟨rfl, rfl⟩
    go_wp2_with fail
    go_ret2
    exact ⟨rfl, Below.refl _ _⟩

set_option maxRecDepth 100000 in
theorem rmul_no (s t : ByteArray) (hs : (s.size : Int) ≤ 9223372036854775807) (ht : (t.size : Int) ≤ 9223372036854775807) (h : (validT s.data.toList && validT t.data.toList) = false) (w : World) :
    Calls Tryz.prog 12 #[.string s, .string t] w (GivesInt ⟨#[]⟩ 30 w) := by
  have hVs := rvalid_any s hs
  have hVt := rvalid_any t ht
  by_cases h1 : validT s.data.toList = true
  · have h2 : validT t.data.toList = false := by rw [h1] at h; simpa using h
    rw [h1] at hVs
    rw [h2] at hVt
    have HVS := Lib.hid hVs
    have HVT := Lib.hid hVt
    clear hVs hVt h1 h2 h
    go_enter Tryz.func12, Tryz.ntmps12
    go_wp2_with fail
    refine (HVS.out _).mono ?_
    rintro e w1 ⟨rfl, rfl⟩
    go_wp2_with fail
    refine (HVT.out _).mono ?_
    rintro e w1 ⟨rfl, rfl⟩
    go_wp2_with fail
    go_ret2
    exact ⟨rfl, Below.refl _ _⟩
  · rw [Bool.not_eq_true] at h1
    rw [h1] at hVs
    have HVS := Lib.hid hVs
    clear hVs hVt h1 h
    go_enter Tryz.func12, Tryz.ntmps12
    go_wp2_with fail
    refine (HVS.out _).mono ?_
    rintro e w1 ⟨rfl, rfl⟩
    go_wp2_with fail
    go_ret2
    exact ⟨rfl, Below.refl _ _⟩

set_option maxRecDepth 100000 in
theorem rgcd_no (s t : ByteArray) (hs : (s.size : Int) ≤ 9223372036854775807) (ht : (t.size : Int) ≤ 9223372036854775807) (h : (validT s.data.toList && validT t.data.toList) = false) (w : World) :
    Calls Tryz.prog 16 #[.string s, .string t] w (GivesInt ⟨#[]⟩ 30 w) := by
  have hVs := rvalid_any s hs
  have hVt := rvalid_any t ht
  by_cases h1 : validT s.data.toList = true
  · have h2 : validT t.data.toList = false := by rw [h1] at h; simpa using h
    rw [h1] at hVs
    rw [h2] at hVt
    have HVS := Lib.hid hVs
    have HVT := Lib.hid hVt
    clear hVs hVt h1 h2 h
    go_enter Tryz.func16, Tryz.ntmps16
    go_wp2_with fail
    refine (HVS.out _).mono ?_
    rintro e w1 ⟨rfl, rfl⟩
    go_wp2_with fail
    refine (HVT.out _).mono ?_
    rintro e w1 ⟨rfl, rfl⟩
    go_wp2_with fail
    go_ret2
    exact ⟨rfl, Below.refl _ _⟩
  · rw [Bool.not_eq_true] at h1
    rw [h1] at hVs
    have HVS := Lib.hid hVs
    clear hVs hVt h1 h
    go_enter Tryz.func16, Tryz.ntmps16
    go_wp2_with fail
    refine (HVS.out _).mono ?_
    rintro e w1 ⟨rfl, rfl⟩
    go_wp2_with fail
    go_ret2
    exact ⟨rfl, Below.refl _ _⟩

set_option maxRecDepth 100000 in
theorem rcompare_no (s t : ByteArray) (hs : (s.size : Int) ≤ 9223372036854775807) (ht : (t.size : Int) ≤ 9223372036854775807) (h : (validT s.data.toList && validT t.data.toList) = false) (w : World) :
    Calls Tryz.prog 24 #[.string s, .string t] w fun e w' => e = .returned (.int .i64 0) ∧ Below w.heap.size w w' := by
  have hVs := rvalid_any s hs
  have hVt := rvalid_any t ht
  by_cases h1 : validT s.data.toList = true
  · have h2 : validT t.data.toList = false := by rw [h1] at h; simpa using h
    rw [h1] at hVs
    rw [h2] at hVt
    have HVS := Lib.hid hVs
    have HVT := Lib.hid hVt
    clear hVs hVt h1 h2 h
    go_enter Tryz.func24, Tryz.ntmps24
    go_wp2_with fail
    refine (HVS.out _).mono ?_
    rintro e w1 ⟨rfl, rfl⟩
    go_wp2_with fail
    refine (HVT.out _).mono ?_
    rintro e w1 ⟨rfl, rfl⟩
    go_wp2_with fail
    go_ret
    exact ⟨rfl, Below.refl _ _⟩
  · rw [Bool.not_eq_true] at h1
    rw [h1] at hVs
    have HVS := Lib.hid hVs
    clear hVs hVt h1 h
    go_enter Tryz.func24, Tryz.ntmps24
    go_wp2_with fail
    refine (HVS.out _).mono ?_
    rintro e w1 ⟨rfl, rfl⟩
    go_wp2_with fail
    go_ret
    exact ⟨rfl, Below.refl _ _⟩

set_option maxRecDepth 100000 in
theorem rdiv_no (s t : ByteArray) (hs : (s.size : Int) ≤ 9223372036854775807) (ht : (t.size : Int) ≤ 9223372036854775807) (h : (validT s.data.toList && validT t.data.toList) = false) (w : World) :
    Calls Tryz.prog 14 #[.string s, .string t] w fun e w' => e = .returned (.tuple #[.string ⟨#[]⟩, .string ⟨#[]⟩, .int .i64 30]) ∧ Below w.heap.size w w' := by
  have hVs := rvalid_any s hs
  have hVt := rvalid_any t ht
  by_cases h1 : validT s.data.toList = true
  · have h2 : validT t.data.toList = false := by rw [h1] at h; simpa using h
    rw [h1] at hVs
    rw [h2] at hVt
    have HVS := Lib.hid hVs
    have HVT := Lib.hid hVt
    clear hVs hVt h1 h2 h
    go_enter Tryz.func14, Tryz.ntmps14
    go_wp2_with fail
    refine (HVS.out _).mono ?_
    rintro e w1 ⟨rfl, rfl⟩
    go_wp2_with fail
    refine (HVT.out _).mono ?_
    rintro e w1 ⟨rfl, rfl⟩
    go_wp2_with fail
    go_ret3
    exact ⟨rfl, Below.refl _ _⟩
  · rw [Bool.not_eq_true] at h1
    rw [h1] at hVs
    have HVS := Lib.hid hVs
    clear hVs hVt h1 h
    go_enter Tryz.func14, Tryz.ntmps14
    go_wp2_with fail
    refine (HVS.out _).mono ?_
    rintro e w1 ⟨rfl, rfl⟩
    go_wp2_with fail
    go_ret3
    exact ⟨rfl, Below.refl _ _⟩

set_option maxRecDepth 100000 in
set_option maxHeartbeats 2000000 in
theorem radd_ok (x y : Int) (hx : Fits x) (hy : Fits y) (w : World) :
    Calls Tryz.prog 8 #[.string (intB x), .string (intB y)] w (GivesInt (okS (x + y)) (okE (x + y)) w) := by
  have HVS := Lib.hid (rvalid_int x hx)
  have HVT := Lib.hid (rvalid_int y hy)
  have HDX := Lib.hid (rdigits_any x hx)
  have HDY := Lib.hid (rdigits_any y hy)
  have hlx := fits_len hx
  have hly := fits_len hy
  have hS := fun u v W h1 h2 => rsum_any (decide (x < 0)) (decide (y < 0)) x.natAbs y.natAbs (by omega) (by omega) u v W h1 h2
  rw [sgn_of, sgn_of] at hS
  have HS := Lib.hid hS
  clear hS
  clear hlx hly hx hy
  generalize decide (x < 0) = bx at *
  generalize decide (y < 0) = by' at *
  go_enter Tryz.func8, Tryz.ntmps8
  go_wp2_with fail
  refine (HVS.out _).mono ?_
  rintro e w1 ⟨rfl, rfl⟩
  go_wp2_with fail
  refine (HVT.out _).mono ?_
  rintro e w1 ⟨rfl, rfl⟩
  go_wp2_with fail
  refine (HDX.out _).mono ?_
  rintro e w2 ⟨⟨u, rfl, hu⟩, hB2⟩
  have HU := Lib.hid hu
  have HB2 := Lib.hid hB2
  obtain ⟨_, _, rfl, _⟩ := hu
  clear hB2
  go_wp2_with fail
  refine (HDY.out _).mono ?_
  rintro e w3 ⟨⟨v, rfl, hv⟩, hB3⟩
  have HU3 := Lib.hid (NumsAt.via hB3 HU.out)
  have HV3 := Lib.hid hv
  have HB3 := Lib.hid (belowVia hB3 HB2.out)
  obtain ⟨_, _, rfl, _⟩ := hv
  clear hB3
  go_wp2_with fail
  refine (HS.out _ _ _ HU3.out HV3.out).mono ?_
  rintro e w4 ⟨rfl, hB4⟩
  have HB9 := Lib.hid (belowVia hB4 HB3.out)
  clear hB4
  go_wp2_with fail
  go_ret2
  exact ⟨rfl, HB9.out⟩

set_option maxRecDepth 100000 in
set_option maxHeartbeats 2000000 in
theorem rsub_ok (x y : Int) (hx : Fits x) (hy : Fits y) (w : World) :
    Calls Tryz.prog 10 #[.string (intB x), .string (intB y)] w (GivesInt (okS (x - y)) (okE (x - y)) w) := by
  have HVS := Lib.hid (rvalid_int x hx)
  have HVT := Lib.hid (rvalid_int y hy)
  have HDX := Lib.hid (rdigits_any x hx)
  have HDY := Lib.hid (rdigits_any y hy)
  have hlx := fits_len hx
  have hly := fits_len hy
  have hS := fun u v W h1 h2 => rsum_any (decide (x < 0)) (!decide (y < 0)) x.natAbs y.natAbs (by omega) (by omega) u v W h1 h2
  rw [sgn_of, sgn_neg, ← Int.sub_eq_add_neg] at hS
  have HS := Lib.hid hS
  clear hS
  clear hlx hly hx hy
  generalize decide (x < 0) = bx at *
  generalize decide (y < 0) = by' at *
  go_enter Tryz.func10, Tryz.ntmps10
  go_wp2_with fail
  refine (HVS.out _).mono ?_
  rintro e w1 ⟨rfl, rfl⟩
  go_wp2_with fail
  refine (HVT.out _).mono ?_
  rintro e w1 ⟨rfl, rfl⟩
  go_wp2_with fail
  refine (HDX.out _).mono ?_
  rintro e w2 ⟨⟨u, rfl, hu⟩, hB2⟩
  have HU := Lib.hid hu
  have HB2 := Lib.hid hB2
  obtain ⟨_, _, rfl, _⟩ := hu
  clear hB2
  go_wp2_with fail
  refine (HDY.out _).mono ?_
  rintro e w3 ⟨⟨v, rfl, hv⟩, hB3⟩
  have HU3 := Lib.hid (NumsAt.via hB3 HU.out)
  have HV3 := Lib.hid hv
  have HB3 := Lib.hid (belowVia hB3 HB2.out)
  obtain ⟨_, _, rfl, _⟩ := hv
  clear hB3
  go_wp2_with fail
  refine (HS.out _ _ _ HU3.out HV3.out).mono ?_
  rintro e w4 ⟨rfl, hB4⟩
  have HB9 := Lib.hid (belowVia hB4 HB3.out)
  clear hB4
  go_wp2_with fail
  go_ret2
  exact ⟨rfl, HB9.out⟩

set_option maxRecDepth 100000 in
set_option maxHeartbeats 2000000 in
theorem rmul_ok (x y : Int) (hx : Fits x) (hy : Fits y) (w : World) :
    Calls Tryz.prog 12 #[.string (intB x), .string (intB y)] w (GivesInt (okS (x * y)) (okE (x * y)) w) := by
  have HVS := Lib.hid (rvalid_int x hx)
  have HVT := Lib.hid (rvalid_int y hy)
  have HDX := Lib.hid (rdigits_any x hx)
  have HDY := Lib.hid (rdigits_any y hy)
  have hlx := fits_len hx
  have hly := fits_len hy
  have HT := Lib.hid (fun u v W h1 h2 => rtimesN x.natAbs y.natAbs (by omega) (by omega) u v W h1 h2)
  have hC := fun v W h => rchecked_any (decide (x < 0) != decide (y < 0)) (x.natAbs * y.natAbs) (by have := dlen_mul hlx hly; omega) v W h
  rw [ten_sgnmul] at hC
  have HC := Lib.hid hC
  clear hC
  clear hlx hly hx hy
  generalize decide (x < 0) = bx at *
  generalize decide (y < 0) = by' at *
  go_enter Tryz.func12, Tryz.ntmps12
  go_wp2_with fail
  refine (HVS.out _).mono ?_
  rintro e w1 ⟨rfl, rfl⟩
  go_wp2_with fail
  refine (HVT.out _).mono ?_
  rintro e w1 ⟨rfl, rfl⟩
  go_wp2_with fail
  refine (HDX.out _).mono ?_
  rintro e w2 ⟨⟨u, rfl, hu⟩, hB2⟩
  have HU := Lib.hid hu
  have HB2 := Lib.hid hB2
  obtain ⟨_, _, rfl, _⟩ := hu
  clear hB2
  go_wp2_with fail
  refine (HDY.out _).mono ?_
  rintro e w3 ⟨⟨v, rfl, hv⟩, hB3⟩
  have HU3 := Lib.hid (NumsAt.via hB3 HU.out)
  have HV3 := Lib.hid hv
  have HB3 := Lib.hid (belowVia hB3 HB2.out)
  obtain ⟨_, _, rfl, _⟩ := hv
  clear hB3
  go_wp2_with fail
  refine (HT.out _ _ _ HU3.out HV3.out).mono ?_
  rintro e w4 ⟨⟨r, rfl, hr⟩, hB4⟩
  have HR := Lib.hid hr
  have HB4 := Lib.hid (belowVia hB4 HB3.out)
  obtain ⟨_, _, rfl, _⟩ := hr
  clear hB4
  go_wp2_with fail
  refine (HC.out _ _ HR.out).mono ?_
  rintro e w5 ⟨rfl, hB5⟩
  have HB9 := Lib.hid (belowVia hB5 HB4.out)
  clear hB5
  go_wp2_with fail
  go_ret2
  exact ⟨rfl, HB9.out⟩

set_option maxRecDepth 100000 in
set_option maxHeartbeats 2000000 in
theorem rcompare_ok (x y : Int) (hx : Fits x) (hy : Fits y) (w : World) :
    Calls Tryz.prog 24 #[.string (intB x), .string (intB y)] w fun e w' => e = .returned (.int .i64 (cmpI x y)) ∧ Below w.heap.size w w' := by
  have HVS := Lib.hid (rvalid_int x hx)
  have HVT := Lib.hid (rvalid_int y hy)
  have HDX := Lib.hid (rdigits_any x hx)
  have HDY := Lib.hid (rdigits_any y hy)
  have hlx := fits_len hx
  have hly := fits_len hy
  by_cases hxn : x < 0 <;> by_cases hyn : y < 0
  · have hbx : decide (x < 0) = true := by simpa using hxn
    have hby : decide (y < 0) = true := by simpa using hyn
    rw [hbx] at HDX
    rw [hby] at HDY
    have hO := fun u v W h1 h2 => rcmpN y.natAbs x.natAbs (by omega) (by omega) u v W h1 h2
    have hc : cmpI (y.natAbs : Nat) (x.natAbs : Nat) = cmpI x y := by unfold cmpI; split <;> split <;> (try split) <;> (try split) <;> omega
    rw [hc] at hO
    have HO := Lib.hid hO
    have hkb : -1 ≤ cmpI x y ∧ cmpI x y ≤ 1 := by unfold cmpI; split <;> (try split) <;> omega
    obtain ⟨hkb1, hkb2⟩ := hkb
    generalize cmpI x y = kk at *
    clear hO hc
    clear hlx hly hx hy hbx hby hxn hyn
    go_enter Tryz.func24, Tryz.ntmps24
    go_wp2_with fail
    refine (HVS.out _).mono ?_
    rintro e w1 ⟨rfl, rfl⟩
    go_wp2_with fail
    refine (HVT.out _).mono ?_
    rintro e w1 ⟨rfl, rfl⟩
    go_wp2_with fail
    refine (HDX.out _).mono ?_
    rintro e w2 ⟨⟨u, rfl, hu⟩, hB2⟩
    have HU := Lib.hid hu
    have HB2 := Lib.hid hB2
    obtain ⟨_, _, rfl, _⟩ := hu
    clear hB2
    go_wp2_with fail
    refine (HDY.out _).mono ?_
    rintro e w3 ⟨⟨v, rfl, hv⟩, hB3⟩
    have HU3 := Lib.hid (NumsAt.via hB3 HU.out)
    have HV3 := Lib.hid hv
    have HB3 := Lib.hid (belowVia hB3 HB2.out)
    obtain ⟨_, _, rfl, _⟩ := hv
    clear hB3
    go_wp2_with fail
    refine (HO.out _ _ _ HV3.out HU3.out).mono ?_
    rintro e w4 ⟨rfl, hB4⟩
    have HB9 := Lib.hid (belowVia hB4 HB3.out)
    clear hB4
    go_wp2_with fail
    go_ret
    exact ⟨rfl, HB9.out⟩
  · have hbx : decide (x < 0) = true := by simpa using hxn
    have hby : decide (y < 0) = false := by simpa using hyn
    rw [hbx] at HDX
    rw [hby] at HDY
    have hc : cmpI x y = -1 := by unfold cmpI; split <;> (try split) <;> omega
    rw [hc]
    clear hc
    clear hlx hly hx hy hbx hby hxn hyn
    go_enter Tryz.func24, Tryz.ntmps24
    go_wp2_with fail
    refine (HVS.out _).mono ?_
    rintro e w1 ⟨rfl, rfl⟩
    go_wp2_with fail
    refine (HVT.out _).mono ?_
    rintro e w1 ⟨rfl, rfl⟩
    go_wp2_with fail
    refine (HDX.out _).mono ?_
    rintro e w2 ⟨⟨u, rfl, hu⟩, hB2⟩
    have HU := Lib.hid hu
    have HB2 := Lib.hid hB2
    obtain ⟨_, _, rfl, _⟩ := hu
    clear hB2
    go_wp2_with fail
    refine (HDY.out _).mono ?_
    rintro e w3 ⟨⟨v, rfl, hv⟩, hB3⟩
    have HU3 := Lib.hid (NumsAt.via hB3 HU.out)
    have HV3 := Lib.hid hv
    have HB3 := Lib.hid (belowVia hB3 HB2.out)
    obtain ⟨_, _, rfl, _⟩ := hv
    clear hB3
    go_wp2_with fail
    go_ret
    exact ⟨rfl, HB3.out⟩
  · have hbx : decide (x < 0) = false := by simpa using hxn
    have hby : decide (y < 0) = true := by simpa using hyn
    rw [hbx] at HDX
    rw [hby] at HDY
    have hc : cmpI x y = 1 := by unfold cmpI; split <;> (try split) <;> omega
    rw [hc]
    clear hc
    clear hlx hly hx hy hbx hby hxn hyn
    go_enter Tryz.func24, Tryz.ntmps24
    go_wp2_with fail
    refine (HVS.out _).mono ?_
    rintro e w1 ⟨rfl, rfl⟩
    go_wp2_with fail
    refine (HVT.out _).mono ?_
    rintro e w1 ⟨rfl, rfl⟩
    go_wp2_with fail
    refine (HDX.out _).mono ?_
    rintro e w2 ⟨⟨u, rfl, hu⟩, hB2⟩
    have HU := Lib.hid hu
    have HB2 := Lib.hid hB2
    obtain ⟨_, _, rfl, _⟩ := hu
    clear hB2
    go_wp2_with fail
    refine (HDY.out _).mono ?_
    rintro e w3 ⟨⟨v, rfl, hv⟩, hB3⟩
    have HU3 := Lib.hid (NumsAt.via hB3 HU.out)
    have HV3 := Lib.hid hv
    have HB3 := Lib.hid (belowVia hB3 HB2.out)
    obtain ⟨_, _, rfl, _⟩ := hv
    clear hB3
    go_wp2_with fail
    go_ret
    exact ⟨rfl, HB3.out⟩
  · have hbx : decide (x < 0) = false := by simpa using hxn
    have hby : decide (y < 0) = false := by simpa using hyn
    rw [hbx] at HDX
    rw [hby] at HDY
    have hO := fun u v W h1 h2 => rcmpN x.natAbs y.natAbs (by omega) (by omega) u v W h1 h2
    have hc : cmpI (x.natAbs : Nat) (y.natAbs : Nat) = cmpI x y := by unfold cmpI; split <;> split <;> (try split) <;> (try split) <;> omega
    rw [hc] at hO
    have HO := Lib.hid hO
    have hkb : -1 ≤ cmpI x y ∧ cmpI x y ≤ 1 := by unfold cmpI; split <;> (try split) <;> omega
    obtain ⟨hkb1, hkb2⟩ := hkb
    generalize cmpI x y = kk at *
    clear hO hc
    clear hlx hly hx hy hbx hby hxn hyn
    go_enter Tryz.func24, Tryz.ntmps24
    go_wp2_with fail
    refine (HVS.out _).mono ?_
    rintro e w1 ⟨rfl, rfl⟩
    go_wp2_with fail
    refine (HVT.out _).mono ?_
    rintro e w1 ⟨rfl, rfl⟩
    go_wp2_with fail
    refine (HDX.out _).mono ?_
    rintro e w2 ⟨⟨u, rfl, hu⟩, hB2⟩
    have HU := Lib.hid hu
    have HB2 := Lib.hid hB2
    obtain ⟨_, _, rfl, _⟩ := hu
    clear hB2
    go_wp2_with fail
    refine (HDY.out _).mono ?_
    rintro e w3 ⟨⟨v, rfl, hv⟩, hB3⟩
    have HU3 := Lib.hid (NumsAt.via hB3 HU.out)
    have HV3 := Lib.hid hv
    have HB3 := Lib.hid (belowVia hB3 HB2.out)
    obtain ⟨_, _, rfl, _⟩ := hv
    clear hB3
    go_wp2_with fail
    refine (HO.out _ _ _ HU3.out HV3.out).mono ?_
    rintro e w4 ⟨rfl, hB4⟩
    have HB9 := Lib.hid (belowVia hB4 HB3.out)
    clear hB4
    go_wp2_with fail
    go_ret
    exact ⟨rfl, HB9.out⟩

theorem quo_parts (x y : Int) : (x.natAbs : Int) = (y.natAbs : Int) * ((x.natAbs / y.natAbs : Nat) : Int) + ((x.natAbs % y.natAbs : Nat) : Int) := by
  have h := Nat.div_add_mod x.natAbs y.natAbs
  rw [← Int.natCast_mul, ← Int.natCast_add, h]
theorem quo_lo {x y : Int} (hy : y ≠ 0) (hc : ¬ (x < 0 ∧ 0 < x.natAbs % y.natAbs)) : sgn (decide (x < 0) != decide (y < 0)) (x.natAbs / y.natAbs) = x / y ∧ ((x.natAbs % y.natAbs : Nat) : Int) = x % y := by
  have hp := quo_parts x y
  have hr : x.natAbs % y.natAbs < y.natAbs := Nat.mod_lt _ (by omega)
  generalize x.natAbs / y.natAbs = Q at *
  generalize x.natAbs % y.natAbs = R at *
  refine ediv_unique hy ?_ (by omega) (by omega)
  unfold sgn
  by_cases h : x < 0 <;> by_cases k : y < 0
  · rw [if_neg (by simp [h, k])]
    have e1 : (x.natAbs : Int) = -x := by omega
    have e2 : (y.natAbs : Int) = -y := by omega
    rw [e1, e2, Int.neg_mul] at hp
    have hR : R = 0 := by omega
    subst hR
    rw [Int.mul_comm]; omega
  · rw [if_pos (by simp [h]; omega)]
    have e1 : (x.natAbs : Int) = -x := by omega
    have e2 : (y.natAbs : Int) = y := by omega
    rw [e1, e2] at hp
    have hR : R = 0 := by omega
    subst hR
    rw [Int.neg_mul, Int.mul_comm]; omega
  · rw [if_pos (by simp [k]; omega)]
    have e1 : (x.natAbs : Int) = x := by omega
    have e2 : (y.natAbs : Int) = -y := by omega
    rw [e1, e2, Int.neg_mul] at hp
    rw [Int.neg_mul, Int.mul_comm]; omega
  · rw [if_neg (by simp; omega)]
    have e1 : (x.natAbs : Int) = x := by omega
    have e2 : (y.natAbs : Int) = y := by omega
    rw [e1, e2] at hp
    rw [Int.mul_comm]; omega
theorem quo_hi {x y : Int} (hx : x < 0) (hr0 : 0 < x.natAbs % y.natAbs) (hy : y ≠ 0) : sgn (decide (x < 0) != decide (y < 0)) (x.natAbs / y.natAbs + 1) = x / y ∧ ((y.natAbs - x.natAbs % y.natAbs : Nat) : Int) = x % y := by
  have hp := quo_parts x y
  have hr : x.natAbs % y.natAbs < y.natAbs := Nat.mod_lt _ (by omega)
  generalize x.natAbs / y.natAbs = Q at *
  generalize x.natAbs % y.natAbs = R at *
  refine ediv_unique hy ?_ (by omega) (by omega)
  unfold sgn
  have e1 : (x.natAbs : Int) = -x := by omega
  by_cases k : y < 0
  · rw [if_neg (by simp [hx, k])]
    have e2 : (y.natAbs : Int) = -y := by omega
    rw [e1, e2, Int.neg_mul] at hp
    have e3 : ((Q + 1 : Nat) : Int) * y = y * (Q : Int) + y := by rw [Int.natCast_add, Int.mul_comm, Int.mul_add]; simp
    rw [e3]; omega
  · rw [if_pos (by simp [hx]; omega)]
    have e2 : (y.natAbs : Int) = y := by omega
    rw [e1, e2] at hp
    have e3 : -((Q + 1 : Nat) : Int) * y = -(y * (Q : Int)) - y := by rw [Int.natCast_add, Int.neg_mul, Int.mul_comm, Int.mul_add]; simp; omega
    rw [e3]; omega
theorem ten_one : digsL 10 1 = [1] := by decide +kernel
theorem lit_nums (W : World) (d : Nat) : NumsAt (W.alloc (.cells #[.int .i64 (d : Nat)] 3)) (.slice (some ⟨W.heap.size, 0, none⟩) 1 1) [d] :=
  NumsAt.of_owns (B := W.heap.size) (t := 3) (lit_one W _)
theorem quo_fits {x y : Int} (hx : Fits x) : Fits (x / y) := Nat.lt_of_le_of_lt (Int.natAbs_ediv_le_natAbs x y) hx
theorem dlen_zero {n : Nat} : (digsL 10 n).length = 0 ↔ n = 0 := by
  constructor
  · intro h
    have h1 := leV_digsL (B := 10) (by decide) n
    rw [List.length_eq_zero_iff.1 h] at h1
    exact h1.symm
  · rintro rfl; rw [digsL_zero]; rfl

set_option maxRecDepth 100000 in
theorem rdiv_zero (x : Int) (hx : Fits x) (w : World) :
    Calls Tryz.prog 14 #[.string (intB x), .string (intB 0)] w fun e w' => e = .returned (.tuple #[.string ⟨#[]⟩, .string ⟨#[]⟩, .int .i64 30]) ∧ Below w.heap.size w w' := by
  have h0 : Fits 0 := by show (0 : Int).natAbs < 10 ^ 200; exact Nat.pow_pos (by decide)
  have HVS := Lib.hid (rvalid_int x hx)
  have HVT := Lib.hid (rvalid_int 0 h0)
  have e48 : ((intB 0).toList == [48]) = true := by decide +kernel
  generalize intB 0 = t at *
  go_enter Tryz.func14, Tryz.ntmps14
  go_wp2_with fail
  refine (HVS.out _).mono ?_
  rintro e w1 ⟨rfl, rfl⟩
  go_wp2_with fail
  refine (HVT.out _).mono ?_
  rintro e w1 ⟨rfl, rfl⟩
  go_wp2_with fail
  go_ret3
  exact ⟨rfl, Below.refl _ _⟩
set_option maxRecDepth 100000 in
set_option maxHeartbeats 4000000 in
theorem rdiv_ok (x y : Int) (hx : Fits x) (hy : Fits y) (h0 : y ≠ 0) (w : World) :
    Calls Tryz.prog 14 #[.string (intB x), .string (intB y)] w fun e w' => e = .returned (.tuple #[.string (intB (x / y)), .string (intB (x % y)), .int .i64 0]) ∧ Below w.heap.size w w' := by
  have HVS := Lib.hid (rvalid_int x hx)
  have HVT := Lib.hid (rvalid_int y hy)
  have HDX := Lib.hid (rdigits_any x hx)
  have HDY := Lib.hid (rdigits_any y hy)
  have hlx := fits_len hx
  have hly := fits_len hy
  have e48 := isZero_no h0
  have hD := fun u v W h1 h2 => rdivided_any (digsL 10 x.natAbs) y.natAbs (digsL_dig (by decide) _) (by omega) (by omega) (by omega) u v W h1 h2
  rw [leV_digsL (by decide)] at hD
  have HD := Lib.hid hD
  have hql : (digsL 10 (x.natAbs / y.natAbs)).length ≤ 200 := dlen_mono (Nat.div_le_self _ _) hlx
  have hrl : (digsL 10 (x.natAbs % y.natAbs)).length ≤ 200 := dlen_mono (Nat.le_of_lt (Nat.mod_lt _ (by omega))) hly
  have hqf := quo_fits (y := y) hx
  by_cases hc : x < 0 ∧ 0 < x.natAbs % y.natAbs
  · obtain ⟨hxn, hr0⟩ := hc
    obtain ⟨e1, e2⟩ := quo_hi hxn hr0 h0
    have hlr : (0 : Int) < ((digsL 10 (x.natAbs % y.natAbs)).length : Nat) := by
      have := dlen_zero (n := x.natAbs % y.natAbs); omega
    have HP := Lib.hid (fun u v W h1 h2 => rplusN (x.natAbs / y.natAbs) 1 (by omega) (by rw [ten_one]; decide) u v W h1 h2)
    have HM := Lib.hid (fun u v W h1 h2 => rminusN y.natAbs (x.natAbs % y.natAbs) (by omega) (Nat.le_of_lt (Nat.mod_lt _ (by omega))) u v W h1 h2)
    have hC := fun v W h => rchecked_any (decide (x < 0) != decide (y < 0)) (x.natAbs / y.natAbs + 1) (by have := dlen_add (x := x.natAbs / y.natAbs) (y := 1) hql (by rw [ten_one]; decide); omega) v W h
    rw [e1, okS_fits hqf, okE_fits hqf] at hC
    have HC := Lib.hid hC
    have hT := fun v W h => rtext_any false (digsL 10 (y.natAbs - x.natAbs % y.natAbs)) (by have := dlen_mono (Nat.sub_le y.natAbs (x.natAbs % y.natAbs)) hly; omega) (digsL_dig (by decide) _) (digsL_norm (by decide) _) v W h
    rw [leV_digsL (by decide), show sgn false (y.natAbs - x.natAbs % y.natAbs) = x % y by rw [← e2]; rfl] at hT
    have HT := Lib.hid hT
    have hdx : decide (x < 0) = true := by simpa using hxn
    rw [hdx] at HDX HC
    clear hlx hly hx hy hD hC hT e1 e2 hxn hr0 hdx h0 hqf hql hrl
    generalize decide (y < 0) = by' at *
    rw [show (true != by') = !by' by cases by' <;> rfl] at HC
    unfold GivesInt at *
    go_enter Tryz.func14, Tryz.ntmps14
    go_wp2_with fail
    refine (HVS.out _).mono ?_
    rintro e w1 ⟨rfl, rfl⟩
    go_wp2_with fail
    refine (HVT.out _).mono ?_
    rintro e w1 ⟨rfl, rfl⟩
    go_wp2_with fail
    refine (HDX.out _).mono ?_
    rintro e w2 ⟨⟨u, rfl, hu⟩, hB2⟩
    have HU := Lib.hid hu
    have HB2 := Lib.hid hB2
    obtain ⟨_, _, rfl, _⟩ := hu
    clear hB2
    go_wp2_with fail
    refine (HDY.out _).mono ?_
    rintro e w3 ⟨⟨v, rfl, hv⟩, hB3⟩
    have HU3 := Lib.hid (NumsAt.via hB3 HU.out)
    have HV3 := Lib.hid hv
    have HB3 := Lib.hid (belowVia hB3 HB2.out)
    obtain ⟨_, _, rfl, _⟩ := hv
    clear hB3
    go_wp2_with fail
    refine (HD.out _ _ _ HU3.out HV3.out).mono ?_
    rintro e w4 ⟨⟨q, r, rfl, hq, hr⟩, hB4⟩
    have HQ4 := Lib.hid hq
    have HR4 := Lib.hid hr
    have HV4 := Lib.hid (NumsAt.via hB4 HV3.out)
    have HB4 := Lib.hid (belowVia hB4 HB3.out)
    obtain ⟨_, _, rfl, _⟩ := hq
    obtain ⟨_, _, rfl, _⟩ := hr
    clear hB4
    go_wp2_with fail
    refine (HP.out _ _ _ (NumsAt.via (alloc_below _ _) HQ4.out) (by rw [ten_one]; exact lit_nums _ 1)).mono ?_
    rintro e w5 ⟨⟨q2, rfl, hq2⟩, hB5⟩
    have hB5 := belowVia hB5 (alloc_below _ _)
    have HQ5 := Lib.hid hq2
    have HR5 := Lib.hid (NumsAt.via hB5 HR4.out)
    have HV5 := Lib.hid (NumsAt.via hB5 HV4.out)
    have HB5 := Lib.hid (belowVia hB5 HB4.out)
    obtain ⟨_, _, rfl, _⟩ := hq2
    clear hB5
    go_wp2_with fail
    refine (HM.out _ _ _ HV5.out HR5.out).mono ?_
    rintro e w6 ⟨⟨r2, rfl, hr2, _⟩, hB6⟩
    have HQ6 := Lib.hid (NumsAt.via hB6 HQ5.out)
    have HR6 := Lib.hid hr2
    have HB6 := Lib.hid (belowVia hB6 HB5.out)
    obtain ⟨_, _, rfl, _⟩ := hr2
    clear hB6
    go_wp2_with fail
    refine (HC.out _ _ HQ6.out).mono ?_
    rintro e w7 ⟨rfl, hB7⟩
    have HR7 := Lib.hid (NumsAt.via hB7 HR6.out)
    have HB7 := Lib.hid (belowVia hB7 HB6.out)
    clear hB7
    go_wp2_with fail
    refine (HT.out _ _ HR7.out).mono ?_
    rintro e w8 ⟨rfl, hB8⟩
    have HB8 := Lib.hid (belowVia hB8 HB7.out)
    clear hB8
    go_wp2_with fail
    go_ret3
    exact ⟨rfl, HB8.out⟩
  · obtain ⟨e1, e2⟩ := quo_lo h0 hc
    have hC := fun v W h => rchecked_any (decide (x < 0) != decide (y < 0)) (x.natAbs / y.natAbs) (by omega) v W h
    rw [e1, okS_fits hqf, okE_fits hqf] at hC
    have HC := Lib.hid hC
    have hT := fun v W h => rtext_any false (digsL 10 (x.natAbs % y.natAbs)) (by omega) (digsL_dig (by decide) _) (digsL_norm (by decide) _) v W h
    rw [leV_digsL (by decide), show sgn false (x.natAbs % y.natAbs) = x % y by rw [← e2]; rfl] at hT
    have HT := Lib.hid hT
    have hor : x < 0 ∧ ((digsL 10 (x.natAbs % y.natAbs)).length : Int) = 0 ∨ ¬ x < 0 := by
      by_cases hxn : x < 0
      · exact .inl ⟨hxn, by have := dlen_zero (n := x.natAbs % y.natAbs); omega⟩
      · exact .inr hxn
    clear hlx hly hx hy hD hC hT e1 e2 h0 hqf hql hrl hc
    unfold GivesInt at *
    rcases hor with ⟨hxn, hlr⟩ | hxn
    · have hdx : decide (x < 0) = true := by simpa using hxn
      have hlz : decide ((0 : Int) < ((digsL 10 (x.natAbs % y.natAbs)).length : Nat)) = false := by rw [hlr]; rfl
      rw [hdx] at HDX HC
      clear hxn hdx
      generalize decide (y < 0) = by' at *
      rw [show (true != by') = !by' by cases by' <;> rfl] at HC
      go_enter Tryz.func14, Tryz.ntmps14
      go_wp2_with fail
      refine (HVS.out _).mono ?_
      rintro e w1 ⟨rfl, rfl⟩
      go_wp2_with fail
      refine (HVT.out _).mono ?_
      rintro e w1 ⟨rfl, rfl⟩
      go_wp2_with fail
      refine (HDX.out _).mono ?_
      rintro e w2 ⟨⟨u, rfl, hu⟩, hB2⟩
      have HU := Lib.hid hu
      have HB2 := Lib.hid hB2
      obtain ⟨_, _, rfl, _⟩ := hu
      clear hB2
      go_wp2_with fail
      refine (HDY.out _).mono ?_
      rintro e w3 ⟨⟨v, rfl, hv⟩, hB3⟩
      have HU3 := Lib.hid (NumsAt.via hB3 HU.out)
      have HV3 := Lib.hid hv
      have HB3 := Lib.hid (belowVia hB3 HB2.out)
      obtain ⟨_, _, rfl, _⟩ := hv
      clear hB3
      go_wp2_with fail
      refine (HD.out _ _ _ HU3.out HV3.out).mono ?_
      rintro e w4 ⟨⟨q, r, rfl, hq, hr⟩, hB4⟩
      have HQ4 := Lib.hid hq
      have HR4 := Lib.hid hr
      have HB4 := Lib.hid (belowVia hB4 HB3.out)
      obtain ⟨_, _, rfl, _⟩ := hq
      obtain ⟨_, _, rfl, _⟩ := hr
      clear hB4
      go_wp2_with fail
      refine (HC.out _ _ HQ4.out).mono ?_
      rintro e w7 ⟨rfl, hB7⟩
      have HR7 := Lib.hid (NumsAt.via hB7 HR4.out)
      have HB7 := Lib.hid (belowVia hB7 HB4.out)
      clear hB7
      go_wp2_with fail
      refine (HT.out _ _ HR7.out).mono ?_
      rintro e w8 ⟨rfl, hB8⟩
      have HB8 := Lib.hid (belowVia hB8 HB7.out)
      clear hB8
      go_wp2_with fail
      go_ret3
      exact ⟨rfl, HB8.out⟩
    · have hdx : decide (x < 0) = false := by simpa using hxn
      rw [hdx] at HDX HC
      clear hxn hdx
      generalize decide (y < 0) = by' at *
      rw [show (false != by') = by' by cases by' <;> rfl] at HC
      go_enter Tryz.func14, Tryz.ntmps14
      go_wp2_with fail
      refine (HVS.out _).mono ?_
      rintro e w1 ⟨rfl, rfl⟩
      go_wp2_with fail
      refine (HVT.out _).mono ?_
      rintro e w1 ⟨rfl, rfl⟩
      go_wp2_with fail
      refine (HDX.out _).mono ?_
      rintro e w2 ⟨⟨u, rfl, hu⟩, hB2⟩
      have HU := Lib.hid hu
      have HB2 := Lib.hid hB2
      obtain ⟨_, _, rfl, _⟩ := hu
      clear hB2
      go_wp2_with fail
      refine (HDY.out _).mono ?_
      rintro e w3 ⟨⟨v, rfl, hv⟩, hB3⟩
      have HU3 := Lib.hid (NumsAt.via hB3 HU.out)
      have HV3 := Lib.hid hv
      have HB3 := Lib.hid (belowVia hB3 HB2.out)
      obtain ⟨_, _, rfl, _⟩ := hv
      clear hB3
      go_wp2_with fail
      refine (HD.out _ _ _ HU3.out HV3.out).mono ?_
      rintro e w4 ⟨⟨q, r, rfl, hq, hr⟩, hB4⟩
      have HQ4 := Lib.hid hq
      have HR4 := Lib.hid hr
      have HB4 := Lib.hid (belowVia hB4 HB3.out)
      obtain ⟨_, _, rfl, _⟩ := hq
      obtain ⟨_, _, rfl, _⟩ := hr
      clear hB4
      go_wp2_with fail
      refine (HC.out _ _ HQ4.out).mono ?_
      rintro e w7 ⟨rfl, hB7⟩
      have HR7 := Lib.hid (NumsAt.via hB7 HR4.out)
      have HB7 := Lib.hid (belowVia hB7 HB4.out)
      clear hB7
      go_wp2_with fail
      refine (HT.out _ _ HR7.out).mono ?_
      rintro e w8 ⟨rfl, hB8⟩
      have HB8 := Lib.hid (belowVia hB8 HB7.out)
      clear hB8
      go_wp2_with fail
      go_ret3
      exact ⟨rfl, HB8.out⟩
/-- The list of numbers of a slice that begins at a block's head. -/
def listN (w : World) : Value → List Nat
  | .slice (some a) n _ => (List.range n).map fun j => cellN w a.block j
  | _ => []
theorem listN_of {w : World} {v : Value} {l : List Nat} (h : NumsAt w v l) : listN w v = l := by
  obtain ⟨a, c, rfl, h2, _, h4⟩ := h
  rcases h4 with ⟨rfl, h5⟩ | ⟨g, rfl, h6⟩
  · have : l = [] := List.length_eq_zero_iff.1 (by omega)
    subst this; rfl
  · refine List.ext_getElem (by simp [listN]) fun j h1 h3 => ?_
    simp only [listN, List.getElem_map, List.getElem_range]
    rw [cellN_of (h6 j h3)]
    simp [List.getD_eq_getElem?_getD, h3]
set_option maxRecDepth 100000 in
set_option maxHeartbeats 4000000 in
theorem rgcd_ok (x y : Int) (hx : Fits x) (hy : Fits y) (w : World) :
    Calls Tryz.prog 16 #[.string (intB x), .string (intB y)] w (GivesInt (intB (Int.gcd x y : Nat)) 0 w) := by
  have HVS := Lib.hid (rvalid_int x hx)
  have HVT := Lib.hid (rvalid_int y hy)
  have HDX := Lib.hid (rdigits_any x hx)
  have HDY := Lib.hid (rdigits_any y hy)
  have HLX := Lib.hid (fits_len hx)
  have HLY := Lib.hid (fits_len hy)
  have hgf := gcd_fits hx hy
  have hC := fun v W h => rchecked_any false (Int.gcd x y) (by have h1 := fits_len hgf; rw [Int.natAbs_natCast] at h1; omega) v W h
  rw [show sgn false (Int.gcd x y) = (Int.gcd x y : Nat) from rfl, okS_fits hgf, okE_fits hgf] at hC
  have HC := Lib.hid hC
  obtain ⟨G, hG⟩ : ∃ G, G = Int.gcd x y := ⟨_, rfl⟩
  have HG : Hid (Nat.gcd x.natAbs y.natAbs = G) := hG.symm
  rw [← hG] at HC ⊢
  clear hgf hC hG hx hy
  generalize decide (x < 0) = bx at *
  generalize decide (y < 0) = by' at *
  unfold GivesInt at *
  go_enter Tryz.func16, Tryz.ntmps16
  go_wp2_with fail
  refine (HVS.out _).mono ?_
  rintro e w1 ⟨rfl, rfl⟩
  go_wp2_with fail
  refine (HVT.out _).mono ?_
  rintro e w1 ⟨rfl, rfl⟩
  go_wp2_with fail
  refine (HDX.out _).mono ?_
  rintro e w2 ⟨⟨u, rfl, hu⟩, hB2⟩
  have HU := Lib.hid hu
  have HB2 := Lib.hid hB2
  obtain ⟨_, _, rfl, _⟩ := hu
  clear hB2
  go_wp2_with fail
  refine (HDY.out _).mono ?_
  rintro e w3 ⟨⟨v, rfl, hv⟩, hB3⟩
  have HU3 := Lib.hid (NumsAt.via hB3 HU.out)
  have HV3 := Lib.hid hv
  have HB3 := Lib.hid (belowVia hB3 HB2.out)
  obtain ⟨_, _, rfl, _⟩ := hv
  clear hB3
  go_wp2_with fail
  go_loopw [7, 9] (fun u v wr => ∃ a b : Nat, NumsAt wr u (digsL 10 a) ∧ NumsAt wr v (digsL 10 b) ∧ Nat.gcd a b = G ∧ (digsL 10 a).length ≤ 200 ∧ (digsL 10 b).length ≤ 200 ∧ Below w1.heap.size w1 wr) (fun _ v wr => leV 10 (listN wr v))
  case atStart => exact ⟨_, _, HU3.out, HV3.out, HG.out, HLX.out, HLY.out, HB3.out⟩
  case round =>
    clear HU3 HV3 HG HB3 HLX HLY HB2 HU
    obtain ⟨a, b, hu, hv, hg, hla, hlb, hB⟩ := hrel
    have HU := Lib.hid hu
    have HV := Lib.hid hv
    have HG := Lib.hid hg
    have HB := Lib.hid hB
    have HLB := Lib.hid hlb
    have HLV := Lib.hid (listN_of hv)
    obtain ⟨ua, uc, rfl, _⟩ := nums_form hu
    obtain ⟨va, vc, rfl, _⟩ := nums_form hv
    rcases Nat.eq_zero_or_pos b with hb0 | hb0
    · have hz : ((digsL 10 b).length : Int) = 0 := by have := dlen_zero (n := b); omega
      have hlz : decide ((0 : Int) < ((digsL 10 b).length : Nat)) = false := by rw [hz]; rfl
      have hga : a = G := by rw [hb0, Nat.gcd_zero_right] at hg; exact hg
      subst hga
      clear hu hv hg hB hla hlb hb0 HLV
      go_wp2_with fail
      refine (HC.out _ _ HU.out).mono ?_
      rintro e w8 ⟨rfl, hB8⟩
      have HB8 := Lib.hid (belowVia hB8 HB.out)
      clear hB8
      go_wp2_with fail
      go_ret2
      exact ⟨rfl, HB8.out⟩
    · have hlz : (0 : Int) < ((digsL 10 b).length : Nat) := by have := dlen_zero (n := b); omega
      have hD := fun u v W h1 h2 => rdivided_any (digsL 10 a) b (digsL_dig (by decide) _) hb0 (by omega) (by omega) u v W h1 h2
      rw [leV_digsL (by decide)] at hD
      have HD := Lib.hid hD
      have HG2 : Hid (Nat.gcd b (a % b) = G) := by show _ = _; rw [← hg, Nat.gcd_comm b, ← Nat.gcd_rec, Nat.gcd_comm]
      have HB0 := Lib.hid hb0
      have HL2 : Hid ((digsL 10 (a % b)).length ≤ 200) := dlen_mono (Nat.le_of_lt (Nat.mod_lt _ hb0)) hlb
      clear hu hv hg hB hla hlb hb0 hD
      go_wp2_with fail
      refine (HD.out _ _ _ HU.out HV.out).mono ?_
      rintro e w4 ⟨⟨q, r, rfl, hq, hr⟩, hB4⟩
      have HR4 := Lib.hid hr
      have HV4 := Lib.hid (NumsAt.via hB4 HV.out)
      have HB4 := Lib.hid (belowVia hB4 HB.out)
      have HLR := Lib.hid (listN_of hr)
      obtain ⟨_, _, rfl, _⟩ := hq
      obtain ⟨_, _, rfl, _⟩ := hr
      clear hB4
      go_wp2_with fail
      go_roundw
      case rel => exact ⟨b, a % b, HV4.out, HR4.out, HG2.out, HLB.out, HL2.out, HB4.out⟩
      case measure => rw [HLV.out, HLR.out, leV_digsL (by decide), leV_digsL (by decide)]; exact Nat.mod_lt _ HB0.out
end Go.Proofs.YtggkbeppfpgkaaaGreatDoor
