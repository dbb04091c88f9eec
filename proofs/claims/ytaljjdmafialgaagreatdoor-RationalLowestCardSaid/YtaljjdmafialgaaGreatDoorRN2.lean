/- Several texts of layers 3 and 4, one behind the other: IntRefOps, IntRefInts. -/
import Derived.Test.YtaljjdmafialgaaGreatDoorRN1
import Derived.Test.YtaljjdmafialgaaGreatDoorRM4
/- IntRefOps: The reference's Add, Sub, Mul, Compare, Div and Gcd, on valid integers and on other texts. -/
namespace Go.Proofs.YtaljjdmafialgaaGreatDoor
open Go.RowKit Putlog

theorem sgn_fits (neg : Bool) (n : Nat) : Fits (sgn neg n) ↔ (digsL 10 n).length ≤ 200 := by
  rw [digsL_len (by decide)]
  unfold Fits sgn
  cases neg <;> simp
theorem sgn_of (z : Int) : sgn (decide (z < 0)) z.natAbs = z := by
  unfold sgn
  by_cases h : z < 0
  · rw [if_pos (by simpa using h)]; omega
  · rw [if_neg (by simpa using h)]; omega
theorem sgn_neg (z : Int) : sgn (!decide (z < 0)) z.natAbs = -z := by
  unfold sgn
  by_cases h : z < 0
  · rw [if_neg (by simpa using h)]; omega
  · rw [if_pos (by simpa using h)]; omega
theorem ten_sgnmul (x y : Int) : sgn (decide (x < 0) != decide (y < 0)) (x.natAbs * y.natAbs) = x * y := by
  have h3 : ((x.natAbs * y.natAbs : Nat) : Int) = (x.natAbs : Int) * (y.natAbs : Int) := Int.natCast_mul _ _
  unfold sgn
  by_cases h : x < 0 <;> by_cases k : y < 0
  · have e1 : (x.natAbs : Int) = -x := by omega
    have e2 : (y.natAbs : Int) = -y := by omega
    rw [if_neg (by simp [h, k]), h3, e1, e2, Int.neg_mul_neg]
  · have e1 : (x.natAbs : Int) = -x := by omega
    have e2 : (y.natAbs : Int) = y := by omega
    rw [if_pos (by simp [h]; omega), h3, e1, e2, Int.neg_mul, Int.neg_neg]
  · have e1 : (x.natAbs : Int) = x := by omega
    have e2 : (y.natAbs : Int) = -y := by omega
    rw [if_pos (by simp [k]; omega), h3, e1, e2, Int.mul_neg, Int.neg_neg]
  · have e1 : (x.natAbs : Int) = x := by omega
    have e2 : (y.natAbs : Int) = y := by omega
    rw [if_neg (by simp; omega), h3, e1, e2]
theorem fits_len {z : Int} (h : Fits z) : (digsL 10 z.natAbs).length ≤ 200 := (digsL_len (by decide) _ _).2 h
theorem fits_size {z : Int} (h : Fits z) : ((intB z).size : Int) ≤ 9223372036854775807 := by have := intT_size h (by decide); omega
theorem rvalid_int (z : Int) (h : Fits z) (w : World) : Calls Tryz.prog 61 #[.string (intB z)] w fun e w' => e = .returned (.bool true) ∧ w' = w := by
  have h2 := rvalid_any (intB z) (fits_size h) w
  have h3 : validT (intB z).data.toList = true := by
    show validT (intT z).toArray.toList = true
    rw [List.toList_toArray]; exact (validT_int z).2 h
  rwa [h3] at h2
set_option maxRecDepth 100000 in
set_option maxHeartbeats 2000000 in
theorem rchecked_any (neg : Bool) (n : Nat) (hn : (digsL 10 n).length ≤ 5000) (v : Value) (w : World) (hv : NumsAt w v (digsL 10 n)) :
    Calls Tryz.prog 73 #[.bool neg, v] w (GivesInt (okS (sgn neg n)) (okE (sgn neg n)) w) := by
  have hT := rtext_any neg (digsL 10 n) (by omega) (digsL_dig (by decide) n) (digsL_norm (by decide) n) v w hv
  rw [leV_digsL (by decide)] at hT
  unfold GivesInt
  by_cases hf : (digsL 10 n).length ≤ 200
  · rw [okS_fits ((sgn_fits neg n).2 hf), okE_fits ((sgn_fits neg n).2 hf)]
    rw [show decide (((digsL 10 n).length : Int) ≤ 200) = true by simp; omega] at hT
    have HT := Lib.hid hT
    obtain ⟨_, _, rfl, _⟩ := hv
    clear hT hf
    generalize intB (sgn neg n) = s at *
    go_enter Tryz.func73, Tryz.ntmps73
    go_wp2_with fail
    refine HT.out.mono ?_
    rintro e w1 ⟨rfl, hB⟩
    have HB := Lib.hid hB
    clear hB
    go_wp2_with fail
    go_ret2
    exact ⟨rfl, HB.out⟩
  · have hnf : ¬ Fits (sgn neg n) := fun h => hf ((sgn_fits neg n).1 h)
    rw [show okS (sgn neg n) = ⟨#[]⟩ from if_neg hnf, show okE (sgn neg n) = 30 from if_neg hnf]
    rw [show decide (((digsL 10 n).length : Int) ≤ 200) = false by simp; omega] at hT
    have HT := Lib.hid hT
    obtain ⟨_, _, rfl, _⟩ := hv
    clear hT hf hnf
    generalize intB (sgn neg n) = s at *
    go_enter Tryz.func73, Tryz.ntmps73
    go_wp2_with fail
    refine HT.out.mono ?_
    rintro e w1 ⟨rfl, hB⟩
    have HB := Lib.hid hB
    clear hB
    go_wp2_with fail
    go_ret2
    exact ⟨rfl, HB.out⟩

set_option maxRecDepth 100000 in
set_option maxHeartbeats 4000000 in
theorem rsum_any (p q : Bool) (a b : Nat) (ha : (digsL 10 a).length ≤ 1000) (hb : (digsL 10 b).length ≤ 1000) (u v : Value) (w : World) (hu : NumsAt w u (digsL 10 a)) (hv : NumsAt w v (digsL 10 b)) :
    Calls Tryz.prog 75 #[.bool p, u, .bool q, v] w (GivesInt (okS (sgn p a + sgn q b)) (okE (sgn p a + sgn q b)) w) := by
  have HU := Lib.hid hu
  have HV := Lib.hid hv
  by_cases hpq : p = q
  · subst hpq
    have hz : sgn p a + sgn p b = sgn p (a + b) := by cases p <;> simp [sgn] <;> omega
    rw [hz]
    have HP := Lib.hid (rplusN a b (by omega) (by omega) u v w hu hv)
    have HC := Lib.hid (fun v W h => rchecked_any p (a + b) (by have := dlen_add ha hb; omega) v W h)
    obtain ⟨_, _, rfl, _⟩ := hu
    obtain ⟨_, _, rfl, _⟩ := hv
    have hpp : (p == p) = true := by simp
    clear hz ha hb
    unfold GivesInt at *
    go_enter Tryz.func75, Tryz.ntmps75
    go_wp2_with fail
    refine HP.out.mono ?_
    rintro e w1 ⟨⟨r, rfl, hr⟩, hB1⟩
    have HR := Lib.hid hr
    have HB1 := Lib.hid hB1
    obtain ⟨_, _, rfl, _⟩ := hr
    clear hB1
    go_wp2_with fail
    refine (HC.out _ _ HR.out).mono ?_
    rintro e w2 ⟨rfl, hB2⟩
    have HB2 := Lib.hid (belowVia hB2 HB1.out)
    clear hB2
    go_wp2_with fail
    go_ret2
    exact ⟨rfl, HB2.out⟩
  · have hqp : q = !p := by cases p <;> cases q <;> simp at hpq ⊢
    subst hqp
    have hpp : (p == !p) = false := by cases p <;> rfl
    obtain ⟨kk, hkk⟩ : ∃ kk, kk = cmpI (a : Nat) (b : Nat) := ⟨_, rfl⟩
    have hkb : -1 ≤ kk ∧ kk ≤ 1 := by rw [hkk]; unfold cmpI; split <;> (try split) <;> omega
    obtain ⟨hkb1, hkb2⟩ := hkb
    have hO := rcmpN a b (by omega) (by omega) u v w hu hv
    rw [← hkk] at hO
    have HO := Lib.hid hO
    clear hpq hO
    rcases Nat.lt_or_ge a b with hab | hab
    · have hk0 : kk < 0 := by rw [hkk]; unfold cmpI; rw [if_pos (by omega)]; omega
      have hz : sgn p a + sgn (!p) b = sgn (!p) (b - a) := by cases p <;> simp [sgn] <;> omega
      rw [hz]
      have HM := Lib.hid (fun W hu hv => rminusN b a (by omega) (by omega) v u W hv hu)
      have HC := Lib.hid (fun v W h => rchecked_any (!p) (b - a) (by have := dlen_mono (Nat.sub_le b a) hb; omega) v W h)
      obtain ⟨_, _, rfl, _⟩ := hu
      obtain ⟨_, _, rfl, _⟩ := hv
      clear hz ha hb hkk hab
      generalize (!p) = np at *
      unfold GivesInt at *
      go_enter Tryz.func75, Tryz.ntmps75
      go_wp2_with fail
      refine HO.out.mono ?_
      rintro e w0 ⟨rfl, hB0⟩
      have HB0 := Lib.hid hB0
      clear hB0
      go_wp2_with fail
      refine (HM.out _ (NumsAt.via HB0.out HU.out) (NumsAt.via HB0.out HV.out)).mono ?_
      rintro e w1 ⟨⟨r, rfl, hr, _⟩, hB1⟩
      have HR := Lib.hid hr
      have HB1 := Lib.hid (belowVia hB1 HB0.out)
      obtain ⟨_, _, rfl, _⟩ := hr
      clear hB1
      go_wp2_with fail
      refine (HC.out _ _ HR.out).mono ?_
      rintro e w2 ⟨rfl, hB2⟩
      have HB2 := Lib.hid (belowVia hB2 HB1.out)
      clear hB2
      go_wp2_with fail
      go_ret2
      exact ⟨rfl, HB2.out⟩
    · have hk0 : 0 ≤ kk := by rw [hkk]; unfold cmpI; rw [if_neg (by omega)]; split <;> omega
      have hz : sgn p a + sgn (!p) b = sgn p (a - b) := by cases p <;> simp [sgn] <;> omega
      rw [hz]
      have HM := Lib.hid (fun W hu hv => rminusN a b (by omega) (by omega) u v W hu hv)
      have HC := Lib.hid (fun v W h => rchecked_any p (a - b) (by have := dlen_mono (Nat.sub_le a b) ha; omega) v W h)
      obtain ⟨_, _, rfl, _⟩ := hu
      obtain ⟨_, _, rfl, _⟩ := hv
      clear hz ha hb hkk hab
      generalize (!p) = np at *
      unfold GivesInt at *
      go_enter Tryz.func75, Tryz.ntmps75
      go_wp2_with fail
      refine HO.out.mono ?_
      rintro e w0 ⟨rfl, hB0⟩
      have HB0 := Lib.hid hB0
      clear hB0
      go_wp2_with fail
      refine (HM.out _ (NumsAt.via HB0.out HU.out) (NumsAt.via HB0.out HV.out)).mono ?_
      rintro e w1 ⟨⟨r, rfl, hr, _⟩, hB1⟩
      have HR := Lib.hid hr
      have HB1 := Lib.hid (belowVia hB1 HB0.out)
      obtain ⟨_, _, rfl, _⟩ := hr
      clear hB1
      go_wp2_with fail
      refine (HC.out _ _ HR.out).mono ?_
      rintro e w2 ⟨rfl, hB2⟩
      have HB2 := Lib.hid (belowVia hB2 HB1.out)
      clear hB2
      go_wp2_with fail
      go_ret2
      exact ⟨rfl, HB2.out⟩

set_option maxRecDepth 100000 in
theorem radd_no (s t : ByteArray) (hs : (s.size : Int) ≤ 9223372036854775807) (ht : (t.size : Int) ≤ 9223372036854775807) (h : (validT s.data.toList && validT t.data.toList) = false) (w : World) :
    Calls Tryz.prog 48 #[.string s, .string t] w (GivesInt ⟨#[]⟩ 30 w) := by
  have hVs := rvalid_any s hs
  have hVt := rvalid_any t ht
  by_cases h1 : validT s.data.toList = true
  · have h2 : validT t.data.toList = false := by rw [h1] at h; simpa using h
    rw [h1] at hVs
    rw [h2] at hVt
    have HVS := Lib.hid hVs
    have HVT := Lib.hid hVt
    clear hVs hVt h1 h2 h
    go_enter Tryz.func48, Tryz.ntmps48
    go_wp2_with fail
    refine (HVS.out _).mono ?_
    rintro e w1 ⟨rfl, rfl⟩
    go_wp2_with fail
    refine (HVT.out _).mono ?_
    rintro e w1 ⟨rfl, rfl⟩
    go_wp2_with fail
    go_ret2
    exact ⟨rfl, Below.refl _ _⟩
  · rw [Bool.not_eq_true] at h1
    rw [h1] at hVs
    have HVS := Lib.hid hVs
    clear hVs hVt h1 h
    go_enter Tryz.func48, Tryz.ntmps48
    go_wp2_with fail
    refine (HVS.out _).mono ?_
    rintro e w1 ⟨rfl, rfl⟩
    go_wp2_with fail
    go_ret2
    exact ⟨rfl, Below.refl _ _⟩

set_option maxRecDepth 100000 in
theorem rsub_no (s t : ByteArray) (hs : (s.size : Int) ≤ 9223372036854775807) (ht : (t.size : Int) ≤ 9223372036854775807) (h : (validT s.data.toList && validT t.data.toList) = false) (w : World) :
    Calls Tryz.prog 49 #[.string s, .string t] w (GivesInt ⟨#[]⟩ 30 w) := by
  have hVs := rvalid_any s hs
  have hVt := rvalid_any t ht
  by_cases h1 : validT s.data.toList = true
  · have h2 : validT t.data.toList = false := by rw [h1] at h; simpa using h
    rw [h1] at hVs
    rw [h2] at hVt
    have HVS := Lib.hid hVs
    have HVT := Lib.hid hVt
    clear hVs hVt h1 h2 h
    go_enter Tryz.func49, Tryz.ntmps49
    go_wp2_with fail
    refine (HVS.out _).mono ?_
    rintro e w1 ⟨rfl, rfl⟩
    go_wp2_with fail
    refine (HVT.out _).mono ?_
    rintro e w1 ⟨rfl, rfl⟩
    go_wp2_with fail
    go_ret2
    exact ⟨rfl, Below.refl _ _⟩
  · rw [Bool.not_eq_true] at h1
    rw [h1] at hVs
    have HVS := Lib.hid hVs
    clear hVs hVt h1 h
    go_enter Tryz.func49, Tryz.ntmps49
    go_wp2_with fail
    refine (HVS.out _).mono ?_
    rintro e w1 ⟨rfl, rfl⟩
    go_wp2_with fail
    go_ret2
    exact ⟨rfl, Below.refl _ _⟩

set_option maxRecDepth 100000 in
theorem rmul_no (s t : ByteArray) (hs : (s.size : Int) ≤ 9223372036854775807) (ht : (t.size : Int) ≤ 9223372036854775807) (h : (validT s.data.toList && validT t.data.toList) = false) (w : World) :
    Calls Tryz.prog 44 #[.string s, .string t] w (GivesInt ⟨#[]⟩ 30 w) := by
  have hVs := rvalid_any s hs
  have hVt := rvalid_any t ht
  by_cases h1 : validT s.data.toList = true
  · have h2 : validT t.data.toList = false := by rw [h1] at h; simpa using h
    rw [h1] at hVs
    rw [h2] at hVt
    have HVS := Lib.hid hVs
    have HVT := Lib.hid hVt
    clear hVs hVt h1 h2 h
    go_enter Tryz.func44, Tryz.ntmps44
    go_wp2_with fail
    refine (HVS.out _).mono ?_
    rintro e w1 ⟨rfl, rfl⟩
    go_wp2_with fail
    refine (HVT.out _).mono ?_
    rintro e w1 ⟨rfl, rfl⟩
    go_wp2_with fail
    go_ret2
    exact ⟨rfl, Below.refl _ _⟩
  · rw [Bool.not_eq_true] at h1
    rw [h1] at hVs
    have HVS := Lib.hid hVs
    clear hVs hVt h1 h
    go_enter Tryz.func44, Tryz.ntmps44
    go_wp2_with fail
    refine (HVS.out _).mono ?_
    rintro e w1 ⟨rfl, rfl⟩
    go_wp2_with fail
    go_ret2
    exact ⟨rfl, Below.refl _ _⟩

set_option maxRecDepth 100000 in
theorem rgcd_no (s t : ByteArray) (hs : (s.size : Int) ≤ 9223372036854775807) (ht : (t.size : Int) ≤ 9223372036854775807) (h : (validT s.data.toList && validT t.data.toList) = false) (w : World) :
    Calls Tryz.prog 62 #[.string s, .string t] w (GivesInt ⟨#[]⟩ 30 w) := by
  have hVs := rvalid_any s hs
  have hVt := rvalid_any t ht
  by_cases h1 : validT s.data.toList = true
  · have h2 : validT t.data.toList = false := by rw [h1] at h; simpa using h
    rw [h1] at hVs
    rw [h2] at hVt
    have HVS := Lib.hid hVs
    have HVT := Lib.hid hVt
    clear hVs hVt h1 h2 h
    go_enter Tryz.func62, Tryz.ntmps62
    go_wp2_with fail
    refine (HVS.out _).mono ?_
    rintro e w1 ⟨rfl, rfl⟩
    go_wp2_with fail
    refine (HVT.out _).mono ?_
    rintro e w1 ⟨rfl, rfl⟩
    go_wp2_with fail
    go_ret2
    exact ⟨rfl, Below.refl _ _⟩
  · rw [Bool.not_eq_true] at h1
    rw [h1] at hVs
    have HVS := Lib.hid hVs
    clear hVs hVt h1 h
    go_enter Tryz.func62, Tryz.ntmps62
    go_wp2_with fail
    refine (HVS.out _).mono ?_
    rintro e w1 ⟨rfl, rfl⟩
    go_wp2_with fail
    go_ret2
    exact ⟨rfl, Below.refl _ _⟩

set_option maxRecDepth 100000 in
theorem rcompare_no (s t : ByteArray) (hs : (s.size : Int) ≤ 9223372036854775807) (ht : (t.size : Int) ≤ 9223372036854775807) (h : (validT s.data.toList && validT t.data.toList) = false) (w : World) :
    Calls Tryz.prog 53 #[.string s, .string t] w fun e w' => e = .returned (.int .i64 0) ∧ Below w.heap.size w w' := by
  have hVs := rvalid_any s hs
  have hVt := rvalid_any t ht
  by_cases h1 : validT s.data.toList = true
  · have h2 : validT t.data.toList = false := by rw [h1] at h; simpa using h
    rw [h1] at hVs
    rw [h2] at hVt
    have HVS := Lib.hid hVs
    have HVT := Lib.hid hVt
    clear hVs hVt h1 h2 h
    go_enter Tryz.func53, Tryz.ntmps53
    go_wp2_with fail
    refine (HVS.out _).mono ?_
    rintro e w1 ⟨rfl, rfl⟩
    go_wp2_with fail
    refine (HVT.out _).mono ?_
    rintro e w1 ⟨rfl, rfl⟩
    go_wp2_with fail
    go_ret
    exact ⟨rfl, Below.refl _ _⟩
  · rw [Bool.not_eq_true] at h1
    rw [h1] at hVs
    have HVS := Lib.hid hVs
    clear hVs hVt h1 h
    go_enter Tryz.func53, Tryz.ntmps53
    go_wp2_with fail
    refine (HVS.out _).mono ?_
    rintro e w1 ⟨rfl, rfl⟩
    go_wp2_with fail
    go_ret
    exact ⟨rfl, Below.refl _ _⟩

set_option maxRecDepth 100000 in
theorem rdiv_no (s t : ByteArray) (hs : (s.size : Int) ≤ 9223372036854775807) (ht : (t.size : Int) ≤ 9223372036854775807) (h : (validT s.data.toList && validT t.data.toList) = false) (w : World) :
    Calls Tryz.prog 52 #[.string s, .string t] w fun e w' => e = .returned (.tuple #[.string ⟨#[]⟩, .string ⟨#[]⟩, .int .i64 30]) ∧ Below w.heap.size w w' := by
  have hVs := rvalid_any s hs
  have hVt := rvalid_any t ht
  by_cases h1 : validT s.data.toList = true
  · have h2 : validT t.data.toList = false := by rw [h1] at h; simpa using h
    rw [h1] at hVs
    rw [h2] at hVt
    have HVS := Lib.hid hVs
    have HVT := Lib.hid hVt
    clear hVs hVt h1 h2 h
    go_enter Tryz.func52, Tryz.ntmps52
    go_wp2_with fail
    refine (HVS.out _).mono ?_
    rintro e w1 ⟨rfl, rfl⟩
    go_wp2_with fail
    refine (HVT.out _).mono ?_
    rintro e w1 ⟨rfl, rfl⟩
    go_wp2_with fail
    go_ret3
    exact ⟨rfl, Below.refl _ _⟩
  · rw [Bool.not_eq_true] at h1
    rw [h1] at hVs
    have HVS := Lib.hid hVs
    clear hVs hVt h1 h
    go_enter Tryz.func52, Tryz.ntmps52
    go_wp2_with fail
    refine (HVS.out _).mono ?_
    rintro e w1 ⟨rfl, rfl⟩
    go_wp2_with fail
    go_ret3
    exact ⟨rfl, Below.refl _ _⟩

set_option maxRecDepth 100000 in
set_option maxHeartbeats 2000000 in
theorem radd_ok (x y : Int) (hx : Fits x) (hy : Fits y) (w : World) :
    Calls Tryz.prog 48 #[.string (intB x), .string (intB y)] w (GivesInt (okS (x + y)) (okE (x + y)) w) := by
  have HVS := Lib.hid (rvalid_int x hx)
  have HVT := Lib.hid (rvalid_int y hy)
  have HDX := Lib.hid (rdigits_any x hx)
  have HDY := Lib.hid (rdigits_any y hy)
  have hlx := fits_len hx
  have hly := fits_len hy
  have hS := fun u v W h1 h2 => rsum_any (decide (x < 0)) (decide (y < 0)) x.natAbs y.natAbs (by omega) (by omega) u v W h1 h2
  rw [sgn_of, sgn_of] at hS
  have HS := Lib.hid hS
  clear hS
  clear hlx hly hx hy
  generalize decide (x < 0) = bx at *
  generalize decide (y < 0) = by' at *
  go_enter Tryz.func48, Tryz.ntmps48
  go_wp2_with fail
  refine (HVS.out _).mono ?_
  rintro e w1 ⟨rfl, rfl⟩
  go_wp2_with fail
  refine (HVT.out _).mono ?_
  rintro e w1 ⟨rfl, rfl⟩
  go_wp2_with fail
  refine (HDX.out _).mono ?_
  rintro e w2 ⟨⟨u, rfl, hu⟩, hB2⟩
  have HU := Lib.hid hu
  have HB2 := Lib.hid hB2
  obtain ⟨_, _, rfl, _⟩ := hu
  clear hB2
  go_wp2_with fail
  refine (HDY.out _).mono ?_
  rintro e w3 ⟨⟨v, rfl, hv⟩, hB3⟩
  have HU3 := Lib.hid (NumsAt.via hB3 HU.out)
  have HV3 := Lib.hid hv
  have HB3 := Lib.hid (belowVia hB3 HB2.out)
  obtain ⟨_, _, rfl, _⟩ := hv
  clear hB3
  go_wp2_with fail
  refine (HS.out _ _ _ HU3.out HV3.out).mono ?_
  rintro e w4 ⟨rfl, hB4⟩
  have HB9 := Lib.hid (belowVia hB4 HB3.out)
  clear hB4
  go_wp2_with fail
  go_ret2
  exact ⟨rfl, HB9.out⟩

set_option maxRecDepth 100000 in
set_option maxHeartbeats 2000000 in
theorem rsub_ok (x y : Int) (hx : Fits x) (hy : Fits y) (w : World) :
    Calls Tryz.prog 49 #[.string (intB x), .string (intB y)] w (GivesInt (okS (x - y)) (okE (x - y)) w) := by
  have HVS := Lib.hid (rvalid_int x hx)
  have HVT := Lib.hid (rvalid_int y hy)
  have HDX := Lib.hid (rdigits_any x hx)
  have HDY := Lib.hid (rdigits_any y hy)
  have hlx := fits_len hx
  have hly := fits_len hy
  have hS := fun u v W h1 h2 => rsum_any (decide (x < 0)) (!decide (y < 0)) x.natAbs y.natAbs (by omega) (by omega) u v W h1 h2
  rw [sgn_of, sgn_neg, ← Int.sub_eq_add_neg] at hS
  have HS := Lib.hid hS
  clear hS
  clear hlx hly hx hy
  generalize decide (x < 0) = bx at *
  generalize decide (y < 0) = by' at *
  go_enter Tryz.func49, Tryz.ntmps49
  go_wp2_with fail
  refine (HVS.out _).mono ?_
  rintro e w1 ⟨rfl, rfl⟩
  go_wp2_with fail
  refine (HVT.out _).mono ?_
  rintro e w1 ⟨rfl, rfl⟩
  go_wp2_with fail
  refine (HDX.out _).mono ?_
  rintro e w2 ⟨⟨u, rfl, hu⟩, hB2⟩
  have HU := Lib.hid hu
  have HB2 := Lib.hid hB2
  obtain ⟨_, _, rfl, _⟩ := hu
  clear hB2
  go_wp2_with fail
  refine (HDY.out _).mono ?_
  rintro e w3 ⟨⟨v, rfl, hv⟩, hB3⟩
  have HU3 := Lib.hid (NumsAt.via hB3 HU.out)
  have HV3 := Lib.hid hv
  have HB3 := Lib.hid (belowVia hB3 HB2.out)
  obtain ⟨_, _, rfl, _⟩ := hv
  clear hB3
  go_wp2_with fail
  refine (HS.out _ _ _ HU3.out HV3.out).mono ?_
  rintro e w4 ⟨rfl, hB4⟩
  have HB9 := Lib.hid (belowVia hB4 HB3.out)
  clear hB4
  go_wp2_with fail
  go_ret2
  exact ⟨rfl, HB9.out⟩

set_option maxRecDepth 100000 in
set_option maxHeartbeats 2000000 in
theorem rmul_ok (x y : Int) (hx : Fits x) (hy : Fits y) (w : World) :
    Calls Tryz.prog 44 #[.string (intB x), .string (intB y)] w (GivesInt (okS (x * y)) (okE (x * y)) w) := by
  have HVS := Lib.hid (rvalid_int x hx)
  have HVT := Lib.hid (rvalid_int y hy)
  have HDX := Lib.hid (rdigits_any x hx)
  have HDY := Lib.hid (rdigits_any y hy)
  have hlx := fits_len hx
  have hly := fits_len hy
  have HT := Lib.hid (fun u v W h1 h2 => rtimesN x.natAbs y.natAbs (by omega) (by omega) u v W h1 h2)
  have hC := fun v W h => rchecked_any (decide (x < 0) != decide (y < 0)) (x.natAbs * y.natAbs) (by have := dlen_mul hlx hly; omega) v W h
  rw [ten_sgnmul] at hC
  have HC := Lib.hid hC
  clear hC
  clear hlx hly hx hy
  generalize decide (x < 0) = bx at *
  generalize decide (y < 0) = by' at *
  go_enter Tryz.func44, Tryz.ntmps44
  go_wp2_with fail
  refine (HVS.out _).mono ?_
  rintro e w1 ⟨rfl, rfl⟩
  go_wp2_with fail
  refine (HVT.out _).mono ?_
  rintro e w1 ⟨rfl, rfl⟩
  go_wp2_with fail
  refine (HDX.out _).mono ?_
  rintro e w2 ⟨⟨u, rfl, hu⟩, hB2⟩
  have HU := Lib.hid hu
  have HB2 := Lib.hid hB2
  obtain ⟨_, _, rfl, _⟩ := hu
  clear hB2
  go_wp2_with fail
  refine (HDY.out _).mono ?_
  rintro e w3 ⟨⟨v, rfl, hv⟩, hB3⟩
  have HU3 := Lib.hid (NumsAt.via hB3 HU.out)
  have HV3 := Lib.hid hv
  have HB3 := Lib.hid (belowVia hB3 HB2.out)
  obtain ⟨_, _, rfl, _⟩ := hv
  clear hB3
  go_wp2_with fail
  refine (HT.out _ _ _ HU3.out HV3.out).mono ?_
  rintro e w4 ⟨⟨r, rfl, hr⟩, hB4⟩
  have HR := Lib.hid hr
  have HB4 := Lib.hid (belowVia hB4 HB3.out)
  obtain ⟨_, _, rfl, _⟩ := hr
  clear hB4
  go_wp2_with fail
  refine (HC.out _ _ HR.out).mono ?_
  rintro e w5 ⟨rfl, hB5⟩
  have HB9 := Lib.hid (belowVia hB5 HB4.out)
  clear hB5
  go_wp2_with fail
  go_ret2
  exact ⟨rfl, HB9.out⟩

set_option maxRecDepth 100000 in
set_option maxHeartbeats 2000000 in
theorem rcompare_ok (x y : Int) (hx : Fits x) (hy : Fits y) (w : World) :
    Calls Tryz.prog 53 #[.string (intB x), .string (intB y)] w fun e w' => e = .returned (.int .i64 (cmpI x y)) ∧ Below w.heap.size w w' := by
  have HVS := Lib.hid (rvalid_int x hx)
  have HVT := Lib.hid (rvalid_int y hy)
  have HDX := Lib.hid (rdigits_any x hx)
  have HDY := Lib.hid (rdigits_any y hy)
  have hlx := fits_len hx
  have hly := fits_len hy
  by_cases hxn : x < 0 <;> by_cases hyn : y < 0
  · have hbx : decide (x < 0) = true := by simpa using hxn
    have hby : decide (y < 0) = true := by simpa using hyn
    rw [hbx] at HDX
    rw [hby] at HDY
    have hO := fun u v W h1 h2 => rcmpN y.natAbs x.natAbs (by omega) (by omega) u v W h1 h2
    have hc : cmpI (y.natAbs : Nat) (x.natAbs : Nat) = cmpI x y := by unfold cmpI; split <;> split <;> (try split) <;> (try split) <;> omega
    rw [hc] at hO
    have HO := Lib.hid hO
    have hkb : -1 ≤ cmpI x y ∧ cmpI x y ≤ 1 := by unfold cmpI; split <;> (try split) <;> omega
    obtain ⟨hkb1, hkb2⟩ := hkb
    generalize cmpI x y = kk at *
    clear hO hc
    clear hlx hly hx hy hbx hby hxn hyn
    go_enter Tryz.func53, Tryz.ntmps53
    go_wp2_with fail
    refine (HVS.out _).mono ?_
    rintro e w1 ⟨rfl, rfl⟩
    go_wp2_with fail
    refine (HVT.out _).mono ?_
    rintro e w1 ⟨rfl, rfl⟩
    go_wp2_with fail
    refine (HDX.out _).mono ?_
    rintro e w2 ⟨⟨u, rfl, hu⟩, hB2⟩
    have HU := Lib.hid hu
    have HB2 := Lib.hid hB2
    obtain ⟨_, _, rfl, _⟩ := hu
    clear hB2
    go_wp2_with fail
    refine (HDY.out _).mono ?_
    rintro e w3 ⟨⟨v, rfl, hv⟩, hB3⟩
    have HU3 := Lib.hid (NumsAt.via hB3 HU.out)
    have HV3 := Lib.hid hv
    have HB3 := Lib.hid (belowVia hB3 HB2.out)
    obtain ⟨_, _, rfl, _⟩ := hv
    clear hB3
    go_wp2_with fail
    refine (HO.out _ _ _ HV3.out HU3.out).mono ?_
    rintro e w4 ⟨rfl, hB4⟩
    have HB9 := Lib.hid (belowVia hB4 HB3.out)
    clear hB4
    go_wp2_with fail
    go_ret
    exact ⟨rfl, HB9.out⟩
  · have hbx : decide (x < 0) = true := by simpa using hxn
    have hby : decide (y < 0) = false := by simpa using hyn
    rw [hbx] at HDX
    rw [hby] at HDY
    have hc : cmpI x y = -1 := by unfold cmpI; split <;> (try split) <;> omega
    rw [hc]
    clear hc
    clear hlx hly hx hy hbx hby hxn hyn
    go_enter Tryz.func53, Tryz.ntmps53
    go_wp2_with fail
    refine (HVS.out _).mono ?_
    rintro e w1 ⟨rfl, rfl⟩
    go_wp2_with fail
    refine (HVT.out _).mono ?_
    rintro e w1 ⟨rfl, rfl⟩
    go_wp2_with fail
    refine (HDX.out _).mono ?_
    rintro e w2 ⟨⟨u, rfl, hu⟩, hB2⟩
    have HU := Lib.hid hu
    have HB2 := Lib.hid hB2
    obtain ⟨_, _, rfl, _⟩ := hu
    clear hB2
    go_wp2_with fail
    refine (HDY.out _).mono ?_
    rintro e w3 ⟨⟨v, rfl, hv⟩, hB3⟩
    have HU3 := Lib.hid (NumsAt.via hB3 HU.out)
    have HV3 := Lib.hid hv
    have HB3 := Lib.hid (belowVia hB3 HB2.out)
    obtain ⟨_, _, rfl, _⟩ := hv
    clear hB3
    go_wp2_with fail
    go_ret
    exact ⟨rfl, HB3.out⟩
  · have hbx : decide (x < 0) = false := by simpa using hxn
    have hby : decide (y < 0) = true := by simpa using hyn
    rw [hbx] at HDX
    rw [hby] at HDY
    have hc : cmpI x y = 1 := by unfold cmpI; split <;> (try split) <;> omega
    rw [hc]
    clear hc
    clear hlx hly hx hy hbx hby hxn hyn
    go_enter Tryz.func53, Tryz.ntmps53
    go_wp2_with fail
    refine (HVS.out _).mono ?_
    rintro e w1 ⟨rfl, rfl⟩
    go_wp2_with fail
    refine (HVT.out _).mono ?_
    rintro e w1 ⟨rfl, rfl⟩
    go_wp2_with fail
    refine (HDX.out _).mono ?_
    rintro e w2 ⟨⟨u, rfl, hu⟩, hB2⟩
    have HU := Lib.hid hu
    have HB2 := Lib.hid hB2
    obtain ⟨_, _, rfl, _⟩ := hu
    clear hB2
    go_wp2_with fail
    refine (HDY.out _).mono ?_
    rintro e w3 ⟨⟨v, rfl, hv⟩, hB3⟩
    have HU3 := Lib.hid (NumsAt.via hB3 HU.out)
    have HV3 := Lib.hid hv
    have HB3 := Lib.hid (belowVia hB3 HB2.out)
    obtain ⟨_, _, rfl, _⟩ := hv
    clear hB3
    go_wp2_with fail
    go_ret
    exact ⟨rfl, HB3.out⟩
  · have hbx : decide (x < 0) = false := by simpa using hxn
    have hby : decide (y < 0) = false := by simpa using hyn
    rw [hbx] at HDX
    rw [hby] at HDY
    have hO := fun u v W h1 h2 => rcmpN x.natAbs y.natAbs (by omega) (by omega) u v W h1 h2
    have hc : cmpI (x.natAbs : Nat) (y.natAbs : Nat) = cmpI x y := by unfold cmpI; split <;> split <;> (try split) <;> (try split) <;> omega
    rw [hc] at hO
    have HO := Lib.hid hO
    have hkb : -1 ≤ cmpI x y ∧ cmpI x y ≤ 1 := by unfold cmpI; split <;> (try split) <;> omega
    obtain ⟨hkb1, hkb2⟩ := hkb
    generalize cmpI x y = kk at *
    clear hO hc
    clear hlx hly hx hy hbx hby hxn hyn
    go_enter Tryz.func53, Tryz.ntmps53
    go_wp2_with fail
    refine (HVS.out _).mono ?_
    rintro e w1 ⟨rfl, rfl⟩
    go_wp2_with fail
    refine (HVT.out _).mono ?_
    rintro e w1 ⟨rfl, rfl⟩
    go_wp2_with fail
    refine (HDX.out _).mono ?_
    rintro e w2 ⟨⟨u, rfl, hu⟩, hB2⟩
    have HU := Lib.hid hu
    have HB2 := Lib.hid hB2
    obtain ⟨_, _, rfl, _⟩ := hu
    clear hB2
    go_wp2_with fail
    refine (HDY.out _).mono ?_
    rintro e w3 ⟨⟨v, rfl, hv⟩, hB3⟩
    have HU3 := Lib.hid (NumsAt.via hB3 HU.out)
    have HV3 := Lib.hid hv
    have HB3 := Lib.hid (belowVia hB3 HB2.out)
    obtain ⟨_, _, rfl, _⟩ := hv
    clear hB3
    go_wp2_with fail
    refine (HO.out _ _ _ HU3.out HV3.out).mono ?_
    rintro e w4 ⟨rfl, hB4⟩
    have HB9 := Lib.hid (belowVia hB4 HB3.out)
    clear hB4
    go_wp2_with fail
    go_ret
    exact ⟨rfl, HB9.out⟩

theorem quo_parts (x y : Int) : (x.natAbs : Int) = (y.natAbs : Int) * ((x.natAbs / y.natAbs : Nat) : Int) + ((x.natAbs % y.natAbs : Nat) : Int) := by
  have h := Nat.div_add_mod x.natAbs y.natAbs
  rw [← Int.natCast_mul, ← Int.natCast_add, h]
theorem quo_lo {x y : Int} (hy : y ≠ 0) (hc : ¬ (x < 0 ∧ 0 < x.natAbs % y.natAbs)) : sgn (decide (x < 0) != decide (y < 0)) (x.natAbs / y.natAbs) = x / y ∧ ((x.natAbs % y.natAbs : Nat) : Int) = x % y := by
  have hp := quo_parts x y
  have hr : x.natAbs % y.natAbs < y.natAbs := Nat.mod_lt _ (by omega)
  generalize x.natAbs / y.natAbs = Q at *
  generalize x.natAbs % y.natAbs = R at *
  refine ediv_unique hy ?_ (by omega) (by omega)
  unfold sgn
  by_cases h : x < 0 <;> by_cases k : y < 0
  · rw [if_neg (by simp [h, k])]
    have e1 : (x.natAbs : Int) = -x := by omega
    have e2 : (y.natAbs : Int) = -y := by omega
    rw [e1, e2, Int.neg_mul] at hp
    have hR : R = 0 := by omega
    subst hR
    rw [Int.mul_comm]; omega
  · rw [if_pos (by simp [h]; omega)]
    have e1 : (x.natAbs : Int) = -x := by omega
    have e2 : (y.natAbs : Int) = y := by omega
    rw [e1, e2] at hp
    have hR : R = 0 := by omega
    subst hR
    rw [Int.neg_mul, Int.mul_comm]; omega
  · rw [if_pos (by simp [k]; omega)]
    have e1 : (x.natAbs : Int) = x := by omega
    have e2 : (y.natAbs : Int) = -y := by omega
    rw [e1, e2, Int.neg_mul] at hp
    rw [Int.neg_mul, Int.mul_comm]; omega
  · rw [if_neg (by simp; omega)]
    have e1 : (x.natAbs : Int) = x := by omega
    have e2 : (y.natAbs : Int) = y := by omega
    rw [e1, e2] at hp
    rw [Int.mul_comm]; omega
theorem quo_hi {x y : Int} (hx : x < 0) (hr0 : 0 < x.natAbs % y.natAbs) (hy : y ≠ 0) : sgn (decide (x < 0) != decide (y < 0)) (x.natAbs / y.natAbs + 1) = x / y ∧ ((y.natAbs - x.natAbs % y.natAbs : Nat) : Int) = x % y := by
  have hp := quo_parts x y
  have hr : x.natAbs % y.natAbs < y.natAbs := Nat.mod_lt _ (by omega)
  generalize x.natAbs / y.natAbs = Q at *
  generalize x.natAbs % y.natAbs = R at *
  refine ediv_unique hy ?_ (by omega) (by omega)
  unfold sgn
  have e1 : (x.natAbs : Int) = -x := by omega
  by_cases k : y < 0
  · rw [if_neg (by simp [hx, k])]
    have e2 : (y.natAbs : Int) = -y := by omega
    rw [e1, e2, Int.neg_mul] at hp
    have e3 : ((Q + 1 : Nat) : Int) * y = y * (Q : Int) + y := by rw [Int.natCast_add, Int.mul_comm, Int.mul_add]; simp
    rw [e3]; omega
  · rw [if_pos (by simp [hx]; omega)]
    have e2 : (y.natAbs : Int) = y := by omega
    rw [e1, e2] at hp
    have e3 : -((Q + 1 : Nat) : Int) * y = -(y * (Q : Int)) - y := by rw [Int.natCast_add, Int.neg_mul, Int.mul_comm, Int.mul_add]; simp; omega
    rw [e3]; omega
theorem ten_one : digsL 10 1 = [1] := by decide +kernel
theorem lit_nums (W : World) (d : Nat) : NumsAt (W.alloc (.cells #[.int .i64 (d : Nat)] 3)) (.slice (some ⟨W.heap.size, 0, none⟩) 1 1) [d] :=
  NumsAt.of_owns (B := W.heap.size) (t := 3) (lit_one W _)
theorem quo_fits {x y : Int} (hx : Fits x) : Fits (x / y) := Nat.lt_of_le_of_lt (Int.natAbs_ediv_le_natAbs x y) hx
theorem dlen_zero {n : Nat} : (digsL 10 n).length = 0 ↔ n = 0 := by
  constructor
  · intro h
    have h1 := leV_digsL (B := 10) (by decide) n
    rw [List.length_eq_zero_iff.1 h] at h1
    exact h1.symm
  · rintro rfl; rw [digsL_zero]; rfl

set_option maxRecDepth 100000 in
theorem rdiv_zero (x : Int) (hx : Fits x) (w : World) :
    Calls Tryz.prog 52 #[.string (intB x), .string (intB 0)] w fun e w' => e = .returned (.tuple #[.string ⟨#[]⟩, .string ⟨#[]⟩, .int .i64 30]) ∧ Below w.heap.size w w' := by
  have h0 : Fits 0 := by show (0 : Int).natAbs < 10 ^ 200; exact Nat.pow_pos (by decide)
  have HVS := Lib.hid (rvalid_int x hx)
  have HVT := Lib.hid (rvalid_int 0 h0)
  have e48 : ((intB 0).toList == [48]) = true := by decide +kernel
  generalize intB 0 = t at *
  go_enter Tryz.func52, Tryz.ntmps52
  go_wp2_with fail
  refine (HVS.out _).mono ?_
  rintro e w1 ⟨rfl, rfl⟩
  go_wp2_with fail
  refine (HVT.out _).mono ?_
  rintro e w1 ⟨rfl, rfl⟩
  go_wp2_with fail
  go_ret3
  exact ⟨rfl, Below.refl _ _⟩
set_option maxRecDepth 100000 in
set_option maxHeartbeats 4000000 in
theorem rdiv_ok (x y : Int) (hx : Fits x) (hy : Fits y) (h0 : y ≠ 0) (w : World) :
    Calls Tryz.prog 52 #[.string (intB x), .string (intB y)] w fun e w' => e = .returned (.tuple #[.string (intB (x / y)), .string (intB (x % y)), .int .i64 0]) ∧ Below w.heap.size w w' := by
  have HVS := Lib.hid (rvalid_int x hx)
  have HVT := Lib.hid (rvalid_int y hy)
  have HDX := Lib.hid (rdigits_any x hx)
  have HDY := Lib.hid (rdigits_any y hy)
  have hlx := fits_len hx
  have hly := fits_len hy
  have e48 := isZero_no h0
  have hD := fun u v W h1 h2 => rdivided_any (digsL 10 x.natAbs) y.natAbs (digsL_dig (by decide) _) (by omega) (by omega) (by omega) u v W h1 h2
  rw [leV_digsL (by decide)] at hD
  have HD := Lib.hid hD
  have hql : (digsL 10 (x.natAbs / y.natAbs)).length ≤ 200 := dlen_mono (Nat.div_le_self _ _) hlx
  have hrl : (digsL 10 (x.natAbs % y.natAbs)).length ≤ 200 := dlen_mono (Nat.le_of_lt (Nat.mod_lt _ (by omega))) hly
  have hqf := quo_fits (y := y) hx
  by_cases hc : x < 0 ∧ 0 < x.natAbs % y.natAbs
  · obtain ⟨hxn, hr0⟩ := hc
    obtain ⟨e1, e2⟩ := quo_hi hxn hr0 h0
    have hlr : (0 : Int) < ((digsL 10 (x.natAbs % y.natAbs)).length : Nat) := by
      have := dlen_zero (n := x.natAbs % y.natAbs); omega
    have HP := Lib.hid (fun u v W h1 h2 => rplusN (x.natAbs / y.natAbs) 1 (by omega) (by rw [ten_one]; decide) u v W h1 h2)
    have HM := Lib.hid (fun u v W h1 h2 => rminusN y.natAbs (x.natAbs % y.natAbs) (by omega) (Nat.le_of_lt (Nat.mod_lt _ (by omega))) u v W h1 h2)
    have hC := fun v W h => rchecked_any (decide (x < 0) != decide (y < 0)) (x.natAbs / y.natAbs + 1) (by have := dlen_add (x := x.natAbs / y.natAbs) (y := 1) hql (by rw [ten_one]; decide); omega) v W h
    rw [e1, okS_fits hqf, okE_fits hqf] at hC
    have HC := Lib.hid hC
    have hT := fun v W h => rtext_any false (digsL 10 (y.natAbs - x.natAbs % y.natAbs)) (by have := dlen_mono (Nat.sub_le y.natAbs (x.natAbs % y.natAbs)) hly; omega) (digsL_dig (by decide) _) (digsL_norm (by decide) _) v W h
    rw [leV_digsL (by decide), show sgn false (y.natAbs - x.natAbs % y.natAbs) = x % y by rw [← e2]; rfl] at hT
    have HT := Lib.hid hT
    have hdx : decide (x < 0) = true := by simpa using hxn
    rw [hdx] at HDX HC
    clear hlx hly hx hy hD hC hT e1 e2 hxn hr0 hdx h0 hqf hql hrl
    generalize decide (y < 0) = by' at *
    rw [show (true != by') = !by' by cases by' <;> rfl] at HC
    unfold GivesInt at *
    go_enter Tryz.func52, Tryz.ntmps52
    go_wp2_with fail
    refine (HVS.out _).mono ?_
    rintro e w1 ⟨rfl, rfl⟩
    go_wp2_with fail
    refine (HVT.out _).mono ?_
    rintro e w1 ⟨rfl, rfl⟩
    go_wp2_with fail
    refine (HDX.out _).mono ?_
    rintro e w2 ⟨⟨u, rfl, hu⟩, hB2⟩
    have HU := Lib.hid hu
    have HB2 := Lib.hid hB2
    obtain ⟨_, _, rfl, _⟩ := hu
    clear hB2
    go_wp2_with fail
    refine (HDY.out _).mono ?_
    rintro e w3 ⟨⟨v, rfl, hv⟩, hB3⟩
    have HU3 := Lib.hid (NumsAt.via hB3 HU.out)
    have HV3 := Lib.hid hv
    have HB3 := Lib.hid (belowVia hB3 HB2.out)
    obtain ⟨_, _, rfl, _⟩ := hv
    clear hB3
    go_wp2_with fail
    refine (HD.out _ _ _ HU3.out HV3.out).mono ?_
    rintro e w4 ⟨⟨q, r, rfl, hq, hr⟩, hB4⟩
    have HQ4 := Lib.hid hq
    have HR4 := Lib.hid hr
    have HV4 := Lib.hid (NumsAt.via hB4 HV3.out)
    have HB4 := Lib.hid (belowVia hB4 HB3.out)
    obtain ⟨_, _, rfl, _⟩ := hq
    obtain ⟨_, _, rfl, _⟩ := hr
    clear hB4
    go_wp2_with fail
    refine (HP.out _ _ _ (NumsAt.via (alloc_below _ _) HQ4.out) (by rw [ten_one]; exact lit_nums _ 1)).mono ?_
    rintro e w5 ⟨⟨q2, rfl, hq2⟩, hB5⟩
    have hB5 := belowVia hB5 (alloc_below _ _)
    have HQ5 := Lib.hid hq2
    have HR5 := Lib.hid (NumsAt.via hB5 HR4.out)
    have HV5 := Lib.hid (NumsAt.via hB5 HV4.out)
    have HB5 := Lib.hid (belowVia hB5 HB4.out)
    obtain ⟨_, _, rfl, _⟩ := hq2
    clear hB5
    go_wp2_with fail
    refine (HM.out _ _ _ HV5.out HR5.out).mono ?_
    rintro e w6 ⟨⟨r2, rfl, hr2, _⟩, hB6⟩
    have HQ6 := Lib.hid (NumsAt.via hB6 HQ5.out)
    have HR6 := Lib.hid hr2
    have HB6 := Lib.hid (belowVia hB6 HB5.out)
    obtain ⟨_, _, rfl, _⟩ := hr2
    clear hB6
    go_wp2_with fail
    refine (HC.out _ _ HQ6.out).mono ?_
    rintro e w7 ⟨rfl, hB7⟩
    have HR7 := Lib.hid (NumsAt.via hB7 HR6.out)
    have HB7 := Lib.hid (belowVia hB7 HB6.out)
    clear hB7
    go_wp2_with fail
    refine (HT.out _ _ HR7.out).mono ?_
    rintro e w8 ⟨rfl, hB8⟩
    have HB8 := Lib.hid (belowVia hB8 HB7.out)
    clear hB8
    go_wp2_with fail
    go_ret3
    exact ⟨rfl, HB8.out⟩
  · obtain ⟨e1, e2⟩ := quo_lo h0 hc
    have hC := fun v W h => rchecked_any (decide (x < 0) != decide (y < 0)) (x.natAbs / y.natAbs) (by omega) v W h
    rw [e1, okS_fits hqf, okE_fits hqf] at hC
    have HC := Lib.hid hC
    have hT := fun v W h => rtext_any false (digsL 10 (x.natAbs % y.natAbs)) (by omega) (digsL_dig (by decide) _) (digsL_norm (by decide) _) v W h
    rw [leV_digsL (by decide), show sgn false (x.natAbs % y.natAbs) = x % y by rw [← e2]; rfl] at hT
    have HT := Lib.hid hT
    have hor : x < 0 ∧ ((digsL 10 (x.natAbs % y.natAbs)).length : Int) = 0 ∨ ¬ x < 0 := by
      by_cases hxn : x < 0
      · exact .inl ⟨hxn, by have := dlen_zero (n := x.natAbs % y.natAbs); omega⟩
      · exact .inr hxn
    clear hlx hly hx hy hD hC hT e1 e2 h0 hqf hql hrl hc
    unfold GivesInt at *
    rcases hor with ⟨hxn, hlr⟩ | hxn
    · have hdx : decide (x < 0) = true := by simpa using hxn
      have hlz : decide ((0 : Int) < ((digsL 10 (x.natAbs % y.natAbs)).length : Nat)) = false := by rw [hlr]; rfl
      rw [hdx] at HDX HC
      clear hxn hdx
      generalize decide (y < 0) = by' at *
      rw [show (true != by') = !by' by cases by' <;> rfl] at HC
      go_enter Tryz.func52, Tryz.ntmps52
      go_wp2_with fail
      refine (HVS.out _).mono ?_
      rintro e w1 ⟨rfl, rfl⟩
      go_wp2_with fail
      refine (HVT.out _).mono ?_
      rintro e w1 ⟨rfl, rfl⟩
      go_wp2_with fail
      refine (HDX.out _).mono ?_
      rintro e w2 ⟨⟨u, rfl, hu⟩, hB2⟩
      have HU := Lib.hid hu
      have HB2 := Lib.hid hB2
      obtain ⟨_, _, rfl, _⟩ := hu
      clear hB2
      go_wp2_with fail
      refine (HDY.out _).mono ?_
      rintro e w3 ⟨⟨v, rfl, hv⟩, hB3⟩
      have HU3 := Lib.hid (NumsAt.via hB3 HU.out)
      have HV3 := Lib.hid hv
      have HB3 := Lib.hid (belowVia hB3 HB2.out)
      obtain ⟨_, _, rfl, _⟩ := hv
      clear hB3
      go_wp2_with fail
      refine (HD.out _ _ _ HU3.out HV3.out).mono ?_
      rintro e w4 ⟨⟨q, r, rfl, hq, hr⟩, hB4⟩
      have HQ4 := Lib.hid hq
      have HR4 := Lib.hid hr
      have HB4 := Lib.hid (belowVia hB4 HB3.out)
      obtain ⟨_, _, rfl, _⟩ := hq
      obtain ⟨_, _, rfl, _⟩ := hr
      clear hB4
      go_wp2_with fail
      refine (HC.out _ _ HQ4.out).mono ?_
      rintro e w7 ⟨rfl, hB7⟩
      have HR7 := Lib.hid (NumsAt.via hB7 HR4.out)
      have HB7 := Lib.hid (belowVia hB7 HB4.out)
      clear hB7
      go_wp2_with fail
      refine (HT.out _ _ HR7.out).mono ?_
      rintro e w8 ⟨rfl, hB8⟩
      have HB8 := Lib.hid (belowVia hB8 HB7.out)
      clear hB8
      go_wp2_with fail
      go_ret3
      exact ⟨rfl, HB8.out⟩
    · have hdx : decide (x < 0) = false := by simpa using hxn
      rw [hdx] at HDX HC
      clear hxn hdx
      generalize decide (y < 0) = by' at *
      rw [show (false != by') = by' by cases by' <;> rfl] at HC
      go_enter Tryz.func52, Tryz.ntmps52
      go_wp2_with fail
      refine (HVS.out _).mono ?_
      rintro e w1 ⟨rfl, rfl⟩
      go_wp2_with fail
      refine (HVT.out _).mono ?_
      rintro e w1 ⟨rfl, rfl⟩
      go_wp2_with fail
      refine (HDX.out _).mono ?_
      rintro e w2 ⟨⟨u, rfl, hu⟩, hB2⟩
      have HU := Lib.hid hu
      have HB2 := Lib.hid hB2
      obtain ⟨_, _, rfl, _⟩ := hu
      clear hB2
      go_wp2_with fail
      refine (HDY.out _).mono ?_
      rintro e w3 ⟨⟨v, rfl, hv⟩, hB3⟩
      have HU3 := Lib.hid (NumsAt.via hB3 HU.out)
      have HV3 := Lib.hid hv
      have HB3 := Lib.hid (belowVia hB3 HB2.out)
      obtain ⟨_, _, rfl, _⟩ := hv
      clear hB3
      go_wp2_with fail
      refine (HD.out _ _ _ HU3.out HV3.out).mono ?_
      rintro e w4 ⟨⟨q, r, rfl, hq, hr⟩, hB4⟩
      have HQ4 := Lib.hid hq
      have HR4 := Lib.hid hr
      have HB4 := Lib.hid (belowVia hB4 HB3.out)
      obtain ⟨_, _, rfl, _⟩ := hq
      obtain ⟨_, _, rfl, _⟩ := hr
      clear hB4
      go_wp2_with fail
      refine (HC.out _ _ HQ4.out).mono ?_
      rintro e w7 ⟨rfl, hB7⟩
      have HR7 := Lib.hid (NumsAt.via hB7 HR4.out)
      have HB7 := Lib.hid (belowVia hB7 HB4.out)
      clear hB7
      go_wp2_with fail
      refine (HT.out _ _ HR7.out).mono ?_
      rintro e w8 ⟨rfl, hB8⟩
      have HB8 := Lib.hid (belowVia hB8 HB7.out)
      clear hB8
      go_wp2_with fail
      go_ret3
      exact ⟨rfl, HB8.out⟩
/-- The list of numbers of a slice that begins at a block's head. -/
def listN (w : World) : Value → List Nat
  | .slice (some a) n _ => (List.range n).map fun j => cellN w a.block j
  | _ => []
theorem listN_of {w : World} {v : Value} {l : List Nat} (h : NumsAt w v l) : listN w v = l := by
  obtain ⟨a, c, rfl, h2, _, h4⟩ := h
  rcases h4 with ⟨rfl, h5⟩ | ⟨g, rfl, h6⟩
  · have : l = [] := List.length_eq_zero_iff.1 (by omega)
    subst this; rfl
  · refine List.ext_getElem (by simp [listN]) fun j h1 h3 => ?_
    simp only [listN, List.getElem_map, List.getElem_range]
    rw [cellN_of (h6 j h3)]
    simp [List.getD_eq_getElem?_getD, h3]
set_option maxRecDepth 100000 in
set_option maxHeartbeats 4000000 in
theorem rgcd_ok (x y : Int) (hx : Fits x) (hy : Fits y) (w : World) :
    Calls Tryz.prog 62 #[.string (intB x), .string (intB y)] w (GivesInt (intB (Int.gcd x y : Nat)) 0 w) := by
  have HVS := Lib.hid (rvalid_int x hx)
  have HVT := Lib.hid (rvalid_int y hy)
  have HDX := Lib.hid (rdigits_any x hx)
  have HDY := Lib.hid (rdigits_any y hy)
  have HLX := Lib.hid (fits_len hx)
  have HLY := Lib.hid (fits_len hy)
  have hgf := gcd_fits hx hy
  have hC := fun v W h => rchecked_any false (Int.gcd x y) (by have h1 := fits_len hgf; rw [Int.natAbs_natCast] at h1; omega) v W h
  rw [show sgn false (Int.gcd x y) = (Int.gcd x y : Nat) from rfl, okS_fits hgf, okE_fits hgf] at hC
  have HC := Lib.hid hC
  obtain ⟨G, hG⟩ : ∃ G, G = Int.gcd x y := ⟨_, rfl⟩
  have HG : Hid (Nat.gcd x.natAbs y.natAbs = G) := hG.symm
  rw [← hG] at HC ⊢
  clear hgf hC hG hx hy
  generalize decide (x < 0) = bx at *
  generalize decide (y < 0) = by' at *
  unfold GivesInt at *
  go_enter Tryz.func62, Tryz.ntmps62
  go_wp2_with fail
  refine (HVS.out _).mono ?_
  rintro e w1 ⟨rfl, rfl⟩
  go_wp2_with fail
  refine (HVT.out _).mono ?_
  rintro e w1 ⟨rfl, rfl⟩
  go_wp2_with fail
  refine (HDX.out _).mono ?_
  rintro e w2 ⟨⟨u, rfl, hu⟩, hB2⟩
  have HU := Lib.hid hu
  have HB2 := Lib.hid hB2
  obtain ⟨_, _, rfl, _⟩ := hu
  clear hB2
  go_wp2_with fail
  refine (HDY.out _).mono ?_
  rintro e w3 ⟨⟨v, rfl, hv⟩, hB3⟩
  have HU3 := Lib.hid (NumsAt.via hB3 HU.out)
  have HV3 := Lib.hid hv
  have HB3 := Lib.hid (belowVia hB3 HB2.out)
  obtain ⟨_, _, rfl, _⟩ := hv
  clear hB3
  go_wp2_with fail
  go_loopw [7, 9] (fun u v wr => ∃ a b : Nat, NumsAt wr u (digsL 10 a) ∧ NumsAt wr v (digsL 10 b) ∧ Nat.gcd a b = G ∧ (digsL 10 a).length ≤ 200 ∧ (digsL 10 b).length ≤ 200 ∧ Below w1.heap.size w1 wr) (fun _ v wr => leV 10 (listN wr v))
  case atStart => exact ⟨_, _, HU3.out, HV3.out, HG.out, HLX.out, HLY.out, HB3.out⟩
  case round =>
    clear HU3 HV3 HG HB3 HLX HLY HB2 HU
    obtain ⟨a, b, hu, hv, hg, hla, hlb, hB⟩ := hrel
    have HU := Lib.hid hu
    have HV := Lib.hid hv
    have HG := Lib.hid hg
    have HB := Lib.hid hB
    have HLB := Lib.hid hlb
    have HLV := Lib.hid (listN_of hv)
    obtain ⟨ua, uc, rfl, _⟩ := nums_form hu
    obtain ⟨va, vc, rfl, _⟩ := nums_form hv
    rcases Nat.eq_zero_or_pos b with hb0 | hb0
    · have hz : ((digsL 10 b).length : Int) = 0 := by have := dlen_zero (n := b); omega
      have hlz : decide ((0 : Int) < ((digsL 10 b).length : Nat)) = false := by rw [hz]; rfl
      have hga : a = G := by rw [hb0, Nat.gcd_zero_right] at hg; exact hg
      subst hga
      clear hu hv hg hB hla hlb hb0 HLV
      go_wp2_with fail
      refine (HC.out _ _ HU.out).mono ?_
      rintro e w8 ⟨rfl, hB8⟩
      have HB8 := Lib.hid (belowVia hB8 HB.out)
      clear hB8
      go_wp2_with fail
      go_ret2
      exact ⟨rfl, HB8.out⟩
    · have hlz : (0 : Int) < ((digsL 10 b).length : Nat) := by have := dlen_zero (n := b); omega
      have hD := fun u v W h1 h2 => rdivided_any (digsL 10 a) b (digsL_dig (by decide) _) hb0 (by omega) (by omega) u v W h1 h2
      rw [leV_digsL (by decide)] at hD
      have HD := Lib.hid hD
      have HG2 : Hid (Nat.gcd b (a % b) = G) := by show _ = _; rw [← hg, Nat.gcd_comm b, ← Nat.gcd_rec, Nat.gcd_comm]
      have HB0 := Lib.hid hb0
      have HL2 : Hid ((digsL 10 (a % b)).length ≤ 200) := dlen_mono (Nat.le_of_lt (Nat.mod_lt _ hb0)) hlb
      clear hu hv hg hB hla hlb hb0 hD
      go_wp2_with fail
      refine (HD.out _ _ _ HU.out HV.out).mono ?_
      rintro e w4 ⟨⟨q, r, rfl, hq, hr⟩, hB4⟩
      have HR4 := Lib.hid hr
      have HV4 := Lib.hid (NumsAt.via hB4 HV.out)
      have HB4 := Lib.hid (belowVia hB4 HB.out)
      have HLR := Lib.hid (listN_of hr)
      obtain ⟨_, _, rfl, _⟩ := hq
      obtain ⟨_, _, rfl, _⟩ := hr
      clear hB4
      go_wp2_with fail
      go_roundw
      case rel => exact ⟨b, a % b, HV4.out, HR4.out, HG2.out, HLB.out, HL2.out, HB4.out⟩
      case measure => rw [HLV.out, HLR.out, leV_digsL (by decide), leV_digsL (by decide)]; exact Nat.mod_lt _ HB0.out
end Go.Proofs.YtaljjdmafialgaaGreatDoor
/- IntRefInts: The reference's FromInt and ToInt. -/
namespace Go.Proofs.YtaljjdmafialgaaGreatDoor
open Go.RowKit Putlog

theorem int_head {z : Int} : 0 < (intB z).size ∧ ∀ h : 0 < (intB z).size, ((((intB z)[0]).toNat : Int) == 45) = decide (z < 0) := by
  have hl : (intB z).data.toList = intT z := by
    show (intT z).toArray.toList = _
    rw [List.toList_toArray]
  have h1 := (ba_list (intB z)).1
  rw [hl] at h1
  have hne : intT z ≠ [] := by
    unfold intT; split
    · simp
    · exact natT_ne _
  have h0 : 0 < (intB z).size := by have := List.length_pos_iff.2 hne; omega
  refine ⟨h0, fun h => ?_⟩
  have hh := ba_head h
  rw [hl] at hh
  by_cases hz : z < 0
  · unfold intT at hh
    rw [if_pos hz, List.head?_cons] at hh
    rw [← Option.some.inj hh]; simpa using hz
  · unfold intT at hh
    rw [if_neg hz] at hh
    have hd := natT_head_dig z.natAbs
    rw [hh] at hd
    rw [show decide (z < 0) = false by simpa using hz, beq_eq_false_iff_ne]
    intro h45
    exact hd (by rw [show (intB z)[0] = 45 from UInt8.toNat_inj.1 (by rw [show (45 : UInt8).toNat = 45 from rfl]; omega)])
/-- The digits of a number under way: those that are found, and the rest. -/
def FromT (N : Nat) (l : List Nat) (M : Nat) : Prop := DigB 10 l ∧ leV 10 l + 10 ^ l.length * M = N ∧ (l = [] ∨ 10 ^ (l.length - 1) ≤ N)
theorem FromT.start (N : Nat) : FromT N [] N := ⟨DigB.nil _, by simp [leV], .inl rfl⟩
theorem FromT.step {N : Nat} {l : List Nat} {M : Nat} (h : FromT N l M) (hM : 0 < M) : FromT N (l ++ [M % 10]) (M / 10) := by
  obtain ⟨h1, h2, h3⟩ := h
  refine ⟨h1.append (DigB.cons (Nat.mod_lt _ (by decide)) (DigB.nil _)), ?_, .inr ?_⟩
  · rw [leV_snoc, List.length_append, List.length_cons, List.length_nil, Nat.zero_add, Nat.pow_succ, Nat.mul_assoc, Nat.add_assoc, ← Nat.mul_add, Nat.mod_add_div]
    exact h2
  · have e : (l ++ [M % 10]).length - 1 = l.length := by simp
    rw [e]
    have h4 : 10 ^ l.length * 1 ≤ 10 ^ l.length * M := Nat.mul_le_mul_left _ hM
    omega
theorem FromT.done {N : Nat} {l : List Nat} (h : FromT N l 0) : l = digsL 10 N := by
  obtain ⟨h1, h2, h3⟩ := h
  have hv : leV 10 l = N := by omega
  refine digs_of h1 (norm_of_ge h1 ?_) hv
  rcases h3 with h3 | h3
  · exact .inl h3
  · exact .inr (by omega)
theorem FromT.small {N : Nat} {l : List Nat} {M : Nat} (h : FromT N l M) (hN : N < 10 ^ 20) : l.length ≤ 20 := by
  obtain ⟨_, _, h3⟩ := h
  rcases h3 with rfl | h3
  · decide
  · refine Nat.not_lt.1 fun hl => ?_
    have : 10 ^ 20 ≤ 10 ^ (l.length - 1) := Nat.pow_le_pow_right (by decide) (by omega)
    omega

set_option maxRecDepth 100000 in
set_option maxHeartbeats 4000000 in
theorem rfrom_pos (n : Int) (h0 : -9223372036854775808 ≤ n) (h1 : n ≤ 9223372036854775807) (hs : ¬ n < 0) (w : World) :
    Calls Tryz.prog 43 #[.int .i64 n] w fun e w' => e = .returned (.string (intB n)) ∧ Below w.heap.size w w' := by
  obtain ⟨i0, hi0, hz0, hz1, hz2⟩ := info_parts info_int
  have HI0 := Lib.hid hi0
  have HZ0 := Lib.hid hz0
  have HZ1 := Lib.hid hz1
  have HZ2 := Lib.hid hz2
  obtain ⟨N, hN⟩ : ∃ N, N = n.natAbs := ⟨_, rfl⟩
  have HNB : Hid (N < 10 ^ 20) := by show _ < _; omega
  have hn : n = (N : Int) := by omega
  have hT := fun v W h => rtext_any false (digsL 10 N) (by have : (digsL 10 N).length ≤ 20 := dlen_lt HNB.out; omega) (digsL_dig (by decide) _) (digsL_norm (by decide) _) v W h
  rw [leV_digsL (by decide), show sgn false N = n by rw [hn]; rfl] at hT
  have HT := Lib.hid hT
  have hNb : (N : Int) ≤ 9223372036854775808 := by omega
  have hNb2 : (N : Int) ≤ 9223372036854775807 := by omega
  generalize intB n = s at *
  clear hi0 hz0 hz1 hz2 hT hN
  subst hn
  go_enter Tryz.func43, Tryz.ntmps43
  go_wp2_with fail
  go_loopw [3, 4] (fun v m wr => ∃ (M : Nat) (l : List Nat), m = .int .i64 ((M : Nat) : Int) ∧ M ≤ N ∧ FromT N l M ∧ wr.ownsRow w.heap.size 3 1 v l.length (i64l l) ∧ Below w.heap.size w wr) (fun _ m _ => (intOf m).natAbs)
  case atStart => exact ⟨N, [], rfl, Nat.le_refl _, FromT.start N, World.ownsRow_nil _ _ _ _, Below.refl _ _⟩
  case round =>
    obtain ⟨M, y, rfl, hM, hF, hown, hB⟩ := hrel
    have HF := Lib.hid hF
    have HO := Lib.hid hown
    have HB := Lib.hid hB
    have hyl := hF.small HNB.out
    have HK : Hid (y.length ≤ 100000) := by show _ ≤ _; omega
    have hMb : (M : Int) ≤ 9223372036854775808 := by omega
    have hMb2 : (M : Int) ≤ 9223372036854775807 := by omega
    clear hF hown hB hyl
    rcases Nat.eq_zero_or_pos M with rfl | hM0
    · have hE := HF.out.done
      have hnums := NumsAt.of_owns HO.out
      rw [hE] at hnums
      have HNU := Lib.hid hnums
      obtain ⟨_, _, rfl, _⟩ := nums_form hnums
      clear hE hnums HO
      go_wp2_with fail
      refine (HT.out _ _ HNU.out).mono ?_
      rintro e w5 ⟨rfl, hB5⟩
      have HB5 := Lib.hid (belowVia hB5 HB.out)
      clear hB5
      go_wp2_with fail
      go_ret
      exact ⟨rfl, HB5.out⟩
    · have HST := Lib.hid (HF.out.step hM0)
      have hne : (((M : Nat) : Int) != 0) = true := by rw [bne_iff_ne]; omega
      have hmm : ((M : Nat) : Int).tmod 10 = ((M % 10 : Nat) : Int) := by rw [Int.tmod_eq_emod_of_nonneg (by omega)]; omega
      have hmq : ((M : Nat) : Int).tdiv 10 = ((M / 10 : Nat) : Int) := by rw [Int.tdiv_eq_ediv_of_nonneg (by omega)]; omega
      have hd9 : ((M % 10 : Nat) : Int) ≤ 9 := by omega
      have hq9 : ((M / 10 : Nat) : Int) ≤ 922337203685477580 := by omega
      have HQM : Hid (M / 10 < M ∧ M / 10 ≤ N) := by show _ ∧ _; omega
      generalize M % 10 = d at *
      generalize M / 10 = q at *
      go_wp2_with (at_builtin; refine wpList_append_own _ rfl _ _ 40 rfl w.heap.size 3 i0 (.int .i64 0) 1 8 Tryz.underlying40 HI0.out HZ0.out HZ1.out HZ2.out rfl (by decide) u3 y.length (i64l y) (by rfl) (HO.out.alloc _) ⟨wr.heap.size, 0, none⟩ 1 1 [.int .i64 (d : Nat)] (by rfl) rfl (news_val _ _ _) (one_int _ _) (app_b1 HK.out) (app_b2 HK.out (by decide)) (app_b3 HB.out) ?_; intro v2 w9 hown9 hgrow9 _)
      have HFF := Lib.hid (app_i64 (b := d) HO.out HB.out hown9 hgrow9)
      clear hown9 hgrow9
      go_wp2_with fail
      go_roundw
      case rel => exact ⟨q, _, by go_num, HQM.out.2, HST.out, HFF.out.1, HFF.out.2⟩
      case measure => have := HQM.out; simp [intOf]; omega
set_option maxRecDepth 100000 in
set_option maxHeartbeats 4000000 in
theorem rfrom_neg (n : Int) (h0 : -9223372036854775808 ≤ n) (h1 : n ≤ 9223372036854775807) (hs : n < 0) (w : World) :
    Calls Tryz.prog 43 #[.int .i64 n] w fun e w' => e = .returned (.string (intB n)) ∧ Below w.heap.size w w' := by
  obtain ⟨i0, hi0, hz0, hz1, hz2⟩ := info_parts info_int
  have HI0 := Lib.hid hi0
  have HZ0 := Lib.hid hz0
  have HZ1 := Lib.hid hz1
  have HZ2 := Lib.hid hz2
  obtain ⟨N, hN⟩ : ∃ N, N = n.natAbs := ⟨_, rfl⟩
  have HNB : Hid (N < 10 ^ 20) := by show _ < _; omega
  have hn : n = -(N : Int) := by omega
  have hT := fun v W h => rtext_any true (digsL 10 N) (by have : (digsL 10 N).length ≤ 20 := dlen_lt HNB.out; omega) (digsL_dig (by decide) _) (digsL_norm (by decide) _) v W h
  rw [leV_digsL (by decide), show sgn true N = n by rw [hn]; rfl] at hT
  have HT := Lib.hid hT
  have hNb : (N : Int) ≤ 9223372036854775808 := by omega
  have hNp : 0 < N := by omega
  generalize intB n = s at *
  clear hi0 hz0 hz1 hz2 hT hN
  subst hn
  go_enter Tryz.func43, Tryz.ntmps43
  go_wp2_with fail
  go_loopw [3, 4] (fun v m wr => ∃ (M : Nat) (l : List Nat), m = .int .i64 (-(M : Int)) ∧ M ≤ N ∧ FromT N l M ∧ wr.ownsRow w.heap.size 3 1 v l.length (i64l l) ∧ Below w.heap.size w wr) (fun _ m _ => (intOf m).natAbs)
  case atStart => exact ⟨N, [], rfl, Nat.le_refl _, FromT.start N, World.ownsRow_nil _ _ _ _, Below.refl _ _⟩
  case round =>
    obtain ⟨M, y, rfl, hM, hF, hown, hB⟩ := hrel
    have HF := Lib.hid hF
    have HO := Lib.hid hown
    have HB := Lib.hid hB
    have hyl := hF.small HNB.out
    have HK : Hid (y.length ≤ 100000) := by show _ ≤ _; omega
    have hMb : (M : Int) ≤ 9223372036854775808 := by omega
    clear hF hown hB hyl
    rcases Nat.eq_zero_or_pos M with rfl | hM0
    · have hE := HF.out.done
      have hnums := NumsAt.of_owns HO.out
      rw [hE] at hnums
      have HNU := Lib.hid hnums
      obtain ⟨_, _, rfl, _⟩ := nums_form hnums
      have hnl : -(N : Int) < 0 := by omega
      clear hE hnums HO
      go_wp2_with fail
      refine (HT.out _ _ HNU.out).mono ?_
      rintro e w5 ⟨rfl, hB5⟩
      have HB5 := Lib.hid (belowVia hB5 HB.out)
      clear hB5
      go_wp2_with fail
      go_ret
      exact ⟨rfl, HB5.out⟩
    · have HST := Lib.hid (HF.out.step hM0)
      have hne : ((-(M : Int)) != 0) = true := by rw [bne_iff_ne]; omega
      have hmm : (-(M : Int)).tmod 10 = -((M % 10 : Nat) : Int) := by rw [Int.neg_tmod, Int.tmod_eq_emod_of_nonneg (by omega)]; omega
      have hmq : (-(M : Int)).tdiv 10 = -((M / 10 : Nat) : Int) := by rw [Int.neg_tdiv, Int.tdiv_eq_ediv_of_nonneg (by omega)]; omega
      have hd9 : ((M % 10 : Nat) : Int) ≤ 9 := by omega
      have hq9 : ((M / 10 : Nat) : Int) ≤ 922337203685477580 := by omega
      have HQM : Hid (M / 10 < M ∧ M / 10 ≤ N) := by show _ ∧ _; omega
      generalize M % 10 = d at *
      generalize M / 10 = q at *
      rcases Nat.eq_zero_or_pos d with rfl | hd0
      · skip
        go_wp2_with (at_builtin; refine wpList_append_own _ rfl _ _ 40 rfl w.heap.size 3 i0 (.int .i64 0) 1 8 Tryz.underlying40 HI0.out HZ0.out HZ1.out HZ2.out rfl (by decide) u3 y.length (i64l y) (by rfl) (HO.out.alloc _) ⟨wr.heap.size, 0, none⟩ 1 1 [.int .i64 ((0 : Nat) : Nat)] (by rfl) rfl (news_val _ _ _) (one_int _ _) (app_b1 HK.out) (app_b2 HK.out (by decide)) (app_b3 HB.out) ?_; intro v2 w9 hown9 hgrow9 _)
        have HFF := Lib.hid (app_i64 (b := 0) HO.out HB.out hown9 hgrow9)
        clear hown9 hgrow9
        go_wp2_with fail
        go_roundw
        case rel => exact ⟨q, _, by go_num, HQM.out.2, HST.out, HFF.out.1, HFF.out.2⟩
        case measure => have := HQM.out; simp [intOf]; omega
      · have hdn : -(d : Int) < 0 := by omega
        go_wp2_with (at_builtin; refine wpList_append_own _ rfl _ _ 40 rfl w.heap.size 3 i0 (.int .i64 0) 1 8 Tryz.underlying40 HI0.out HZ0.out HZ1.out HZ2.out rfl (by decide) u3 y.length (i64l y) (by rfl) (HO.out.alloc _) ⟨wr.heap.size, 0, none⟩ 1 1 [.int .i64 (d : Nat)] (by rfl) rfl (news_val _ _ _) (one_int _ _) (app_b1 HK.out) (app_b2 HK.out (by decide)) (app_b3 HB.out) ?_; intro v2 w9 hown9 hgrow9 _)
        have HFF := Lib.hid (app_i64 (b := d) HO.out HB.out hown9 hgrow9)
        clear hown9 hgrow9
        go_wp2_with fail
        go_roundw
        case rel => exact ⟨q, _, by go_num, HQM.out.2, HST.out, HFF.out.1, HFF.out.2⟩
        case measure => have := HQM.out; simp [intOf]; omega
theorem rfrom_any (n : Int) (h0 : -9223372036854775808 ≤ n) (h1 : n ≤ 9223372036854775807) (w : World) :
    Calls Tryz.prog 43 #[.int .i64 n] w fun e w' => e = .returned (.string (intB n)) ∧ Below w.heap.size w w' := by
  by_cases h : n < 0
  · exact rfrom_neg n h0 h1 h w
  · exact rfrom_pos n h0 h1 h w

theorem natV_snoc (l : List UInt8) (c : UInt8) : natV (l ++ [c]) = 10 * natV l + (c.toNat - 48) := by
  unfold natV decT
  rw [List.reverse_append]
  simp only [List.reverse_cons, List.reverse_nil, List.nil_append, List.singleton_append, List.map_cons, leV]
  omega
theorem natV_part (l : List UInt8) (k : Nat) : natV (l.take k) ≤ natV l := by
  have h : natV l = natV (l.take k ++ l.drop k) := by rw [List.take_append_drop]
  rw [h]
  unfold natV decT
  rw [List.reverse_append, List.map_append, leV_append]
  have h1 : 1 ≤ 10 ^ ((l.drop k).reverse.map fun c : UInt8 => c.toNat - 48).length := Nat.pow_pos (by decide)
  have h2 := Nat.le_mul_of_pos_left (leV 10 ((l.take k).reverse.map fun c => c.toNat - 48)) h1
  omega
theorem natV_next (l : List UInt8) {k : Nat} (h : k < l.length) : natV (l.take (k + 1)) = 10 * natV (l.take k) + ((l[k]).toNat - 48) := by
  rw [List.take_succ_eq_append_getElem h, natV_snoc]
theorem b_min : intB (-9223372036854775808) = (⟨#[45, 57, 50, 50, 51, 51, 55, 50, 48, 51, 54, 56, 53, 52, 55, 55, 53, 56, 48, 56]⟩ : ByteArray) := by decide +kernel
theorem b_max : intB 9223372036854775807 = (⟨#[57, 50, 50, 51, 51, 55, 50, 48, 51, 54, 56, 53, 52, 55, 55, 53, 56, 48, 55]⟩ : ByteArray) := by decide +kernel
theorem f_min : Fits (-9223372036854775808) := by decide +kernel
theorem f_max : Fits 9223372036854775807 := by decide +kernel
theorem cmpI_bounds (a b : Int) : -1 ≤ cmpI a b ∧ cmpI a b ≤ 1 := by unfold cmpI; split <;> (try split) <;> omega
theorem cmp_min (z : Int) (hz : Fits z) (w : World) : Calls Tryz.prog 53 #[.string (intB z), .string ⟨#[45, 57, 50, 50, 51, 51, 55, 50, 48, 51, 54, 56, 53, 52, 55, 55, 53, 56, 48, 56]⟩] w fun e w' => e = .returned (.int .i64 (cmpI z (-9223372036854775808))) ∧ Below w.heap.size w w' := by
  have h := rcompare_ok z (-9223372036854775808) hz f_min w
  rwa [b_min] at h
theorem cmp_max (z : Int) (hz : Fits z) (w : World) : Calls Tryz.prog 53 #[.string (intB z), .string ⟨#[57, 50, 50, 51, 51, 55, 50, 48, 51, 54, 56, 53, 52, 55, 55, 53, 56, 48, 55]⟩] w fun e w' => e = .returned (.int .i64 (cmpI z 9223372036854775807)) ∧ Below w.heap.size w w' := by
  have h := rcompare_ok z 9223372036854775807 hz f_max w
  rwa [b_max] at h
set_option maxRecDepth 100000 in
theorem rto_no (s : ByteArray) (hs : (s.size : Int) ≤ 9223372036854775807) (hv : validT s.data.toList = false) (w : World) :
    Calls Tryz.prog 37 #[.string s] w fun e w' => e = .returned (.tuple #[.int .i64 0, .int .i64 30]) ∧ Below w.heap.size w w' := by
  have hVs := rvalid_any s hs
  rw [hv] at hVs
  have HVS := Lib.hid hVs
  clear hVs hv
  go_enter Tryz.func37, Tryz.ntmps37
  go_wp2_with fail
  refine (HVS.out _).mono ?_
  rintro e w1 ⟨rfl, rfl⟩
  go_wp2_with fail
  go_ret2
  exact ⟨rfl, Below.refl _ _⟩
set_option maxRecDepth 100000 in
theorem rto_out (z : Int) (hz : Fits z) (hi : ¬ InInt z) (w : World) :
    Calls Tryz.prog 37 #[.string (intB z)] w fun e w' => e = .returned (.tuple #[.int .i64 0, .int .i64 30]) ∧ Below w.heap.size w w' := by
  have HVS := Lib.hid (rvalid_int z hz)
  have hMI := cmp_min z hz
  have hMA := cmp_max z hz
  by_cases hlo : z < -9223372036854775808
  · have hc : cmpI z (-9223372036854775808) = -1 := by unfold cmpI; rw [if_pos hlo]
    rw [hc] at hMI
    have HMI := Lib.hid hMI
    clear hMI hMA hi hlo hc
    generalize intB z = s at *
    go_enter Tryz.func37, Tryz.ntmps37
    go_wp2_with fail
    refine (HVS.out _).mono ?_
    rintro e w1 ⟨rfl, rfl⟩
    go_wp2_with fail
    refine (HMI.out _).mono ?_
    rintro e w2 ⟨rfl, hB2⟩
    have HB2 := Lib.hid hB2
    clear hB2
    go_wp2_with fail
    go_ret2
    exact ⟨rfl, HB2.out⟩
  · have hhi : 9223372036854775807 < z := by unfold InInt at hi; omega
    have hc : cmpI z (-9223372036854775808) = 1 := by unfold cmpI; rw [if_neg hlo, if_pos (by omega)]
    have hc2 : cmpI z 9223372036854775807 = 1 := by unfold cmpI; rw [if_neg (by omega), if_pos hhi]
    rw [hc] at hMI
    rw [hc2] at hMA
    have HMI := Lib.hid hMI
    have HMA := Lib.hid hMA
    clear hMI hMA hi hlo hc hc2 hhi
    generalize intB z = s at *
    go_enter Tryz.func37, Tryz.ntmps37
    go_wp2_with fail
    refine (HVS.out _).mono ?_
    rintro e w1 ⟨rfl, rfl⟩
    go_wp2_with fail
    refine (HMI.out _).mono ?_
    rintro e w2 ⟨rfl, hB2⟩
    have HB2 := Lib.hid hB2
    clear hB2
    go_wp2_with fail
    refine (HMA.out _).mono ?_
    rintro e w3 ⟨rfl, hB3⟩
    have HB3 := Lib.hid (belowVia hB3 HB2.out)
    clear hB3
    go_wp2_with fail
    go_ret2
    exact ⟨rfl, HB3.out⟩
theorem str_at (s : ByteArray) (l : List UInt8) (hl : s.data.toList = l) (k : Nat) (h : k < s.size) : ∃ h2 : k < l.length, s[k] = l[k]'h2 := by
  obtain ⟨h1, h2⟩ := (ba_list s).2 k h
  subst hl
  exact ⟨h1, h2⟩
theorem dig_val {c : UInt8} (h : IsDig c) : ((c.toNat : Int) = 48 + ((c.toNat - 48 : Nat) : Int)) ∧ c.toNat - 48 ≤ 9 := by unfold IsDig at h; omega
set_option maxRecDepth 100000 in
set_option maxHeartbeats 4000000 in
theorem rto_pos (z : Int) (hz : Fits z) (hi : InInt z) (hs : 0 ≤ z) (w : World) :
    Calls Tryz.prog 37 #[.string (intB z)] w fun e w' => e = .returned (.tuple #[.int .i64 z, .int .i64 0]) ∧ Below w.heap.size w w' := by
  have HVS := Lib.hid (rvalid_int z hz)
  have hMI := cmp_min z hz
  have hMA := cmp_max z hz
  obtain ⟨a, ha⟩ : ∃ a, a = cmpI z (-9223372036854775808) := ⟨_, rfl⟩
  obtain ⟨b, hb⟩ : ∃ b, b = cmpI z 9223372036854775807 := ⟨_, rfl⟩
  have ha0 : 0 ≤ a := by rw [ha]; unfold cmpI; unfold InInt at hi; rw [if_neg (by omega)]; split <;> omega
  have hb0 : b ≤ 0 := by rw [hb]; unfold cmpI; unfold InInt at hi; split
                         · omega
                         · rw [if_neg (by omega)]; exact Int.le_refl 0
  have hab := cmpI_bounds z (-9223372036854775808)
  have hbb := cmpI_bounds z 9223372036854775807
  rw [← ha] at hMI hab
  rw [← hb] at hMA hbb
  have ha1 := hab.2
  have hb1 := hbb.1
  have HMI := Lib.hid hMI
  have HMA := Lib.hid hMA
  have hl : (intB z).data.toList = natT z.natAbs := by
    show (intT z).toArray.toList = _
    rw [List.toList_toArray]; unfold intT; rw [if_neg (by omega)]
  have HAT := Lib.hid (str_at (intB z) _ hl)
  have HDG := Lib.hid (natT_dig z.natAbs)
  have HNV : Hid (natV (natT z.natAbs) = z.natAbs) := natT_val _
  have hsz := (ba_list (intB z)).1
  rw [hl] at hsz
  have HSZ := Lib.hid hsz
  have hsb := intT_size hz (by decide)
  have hsb' : ((intB z).size : Int) ≤ 201 := by omega
  obtain ⟨z0, h45⟩ := int_head (z := z)
  have e45 := h45 z0
  rw [show decide (z < 0) = false by simp; omega] at e45
  have z0' : (0 : Int) < (intB z).size := by omega
  have HZI : Hid (z = (z.natAbs : Nat) ∧ (z.natAbs : Int) ≤ 9223372036854775807) := by show _ ∧ _; unfold InInt at hi; omega
  generalize z.natAbs = n at *
  generalize natT n = T at *
  obtain ⟨hzn, hnb⟩ := HZI.out
  subst hzn
  generalize intB (n : Int) = s at *
  clear hMI hMA hl hsz hi hs hz h45 ha hb hab hbb hsb HZI
  go_enter Tryz.func37, Tryz.ntmps37
  go_wp2_with fail
  refine (HVS.out _).mono ?_
  rintro e w1 ⟨rfl, rfl⟩
  go_wp2_with fail
  refine (HMI.out _).mono ?_
  rintro e w2 ⟨rfl, hB2⟩
  have HB2 := Lib.hid hB2
  clear hB2
  go_wp2_with fail
  refine (HMA.out _).mono ?_
  rintro e w3 ⟨rfl, hB3⟩
  have HB3 := Lib.hid (belowVia hB3 HB2.out)
  clear hB3
  go_wp2_with fail
  go_loopw [4, 5] (fun v i wr => ∃ k : Nat, k ≤ s.size ∧ i = .int .i64 k ∧ v = .int .i64 (natV (T.take k) : Nat) ∧ wr = w3) (fun _ i _ => s.size - (intOf i).toNat)
  case atStart => exact ⟨0, by omega, rfl, rfl, rfl⟩
  case round =>
    obtain ⟨k, hk, rfl, rfl, rfl⟩ := hrel
    by_cases hlt : k < s.size
    · have hlt' : (k : Int) < s.size := by omega
      obtain ⟨h2, h3⟩ := HAT.out k hlt
      obtain ⟨d1, d2⟩ := dig_val (HDG.out _ (List.getElem_mem h2))
      have hnx := natV_next T h2
      have hpt := natV_part T (k + 1)
      rw [HNV.out] at hpt
      rw [← h3] at d1 d2 hnx
      generalize (s[k]).toNat - 48 = x at *
      generalize natV (T.take k) = V at *
      have HV2 := Lib.hid hnx
      have hxb : (x : Int) ≤ 9 := by omega
      have hVb : 10 * (V : Int) + x ≤ 9223372036854775807 := by omega
      have hne : (((s[k]).toNat : Int) == 45) = false := by rw [beq_eq_false_iff_ne]; omega
      have hw : IntKind.u8.wrap (((s[k]).toNat : Int) - 48) = (x : Nat) := by rw [d1, IntKind.wrap_u8]; omega
      clear h3 d1 d2 hnx hpt
      go_wp2_with fail
      go_roundw
      case rel => exact ⟨k + 1, by omega, by go_num, by rw [HV2.out]; go_num, trivial⟩
      case measure => simp [intOf]; omega
    · obtain rfl : k = s.size := by omega
      have HE : Hid (natV (T.take s.size) = n) := by show _ = _; rw [← HSZ.out, List.take_length, HNV.out]
      clear hlt
      go_wp2_with fail
      go_ret2
      exact ⟨by rw [HE.out]; rfl, HB3.out⟩
set_option maxRecDepth 100000 in
set_option maxHeartbeats 4000000 in
theorem rto_neg (z : Int) (hz : Fits z) (hi : InInt z) (hs : z < 0) (w : World) :
    Calls Tryz.prog 37 #[.string (intB z)] w fun e w' => e = .returned (.tuple #[.int .i64 z, .int .i64 0]) ∧ Below w.heap.size w w' := by
  have HVS := Lib.hid (rvalid_int z hz)
  have hMI := cmp_min z hz
  have hMA := cmp_max z hz
  obtain ⟨a, ha⟩ : ∃ a, a = cmpI z (-9223372036854775808) := ⟨_, rfl⟩
  obtain ⟨b, hb⟩ : ∃ b, b = cmpI z 9223372036854775807 := ⟨_, rfl⟩
  have ha0 : 0 ≤ a := by rw [ha]; unfold cmpI; unfold InInt at hi; rw [if_neg (by omega)]; split <;> omega
  have hb0 : b ≤ 0 := by rw [hb]; unfold cmpI; unfold InInt at hi; split
                         · omega
                         · rw [if_neg (by omega)]; exact Int.le_refl 0
  have hab := cmpI_bounds z (-9223372036854775808)
  have hbb := cmpI_bounds z 9223372036854775807
  rw [← ha] at hMI hab
  rw [← hb] at hMA hbb
  have ha1 := hab.2
  have hb1 := hbb.1
  have HMI := Lib.hid hMI
  have HMA := Lib.hid hMA
  have hl : (intB z).data.toList = 45 :: natT z.natAbs := by
    show (intT z).toArray.toList = _
    rw [List.toList_toArray]; unfold intT; rw [if_pos (by omega)]
  have HAT := Lib.hid (str_at (intB z) _ hl)
  have HDG := Lib.hid (natT_dig z.natAbs)
  have HNV : Hid (natV (natT z.natAbs) = z.natAbs) := natT_val _
  have hsz := (ba_list (intB z)).1
  rw [hl, List.length_cons] at hsz
  have HSZ := Lib.hid hsz
  have hsb := intT_size hz (by decide)
  have hsb' : ((intB z).size : Int) ≤ 201 := by omega
  obtain ⟨z0, h45⟩ := int_head (z := z)
  have e45 := h45 z0
  rw [show decide (z < 0) = true by simpa using hs] at e45
  have z0' : (0 : Int) < (intB z).size := by omega
  have HZI : Hid (z = -(z.natAbs : Nat) ∧ (z.natAbs : Int) ≤ 9223372036854775808) := by show _ ∧ _; unfold InInt at hi; omega
  generalize z.natAbs = n at *
  generalize natT n = T at *
  obtain ⟨hzn, hnb⟩ := HZI.out
  subst hzn
  generalize intB (-(n : Int)) = s at *
  clear hMI hMA hl hsz hi hs hz h45 ha hb hab hbb hsb HZI
  go_enter Tryz.func37, Tryz.ntmps37
  go_wp2_with fail
  refine (HVS.out _).mono ?_
  rintro e w1 ⟨rfl, rfl⟩
  go_wp2_with fail
  refine (HMI.out _).mono ?_
  rintro e w2 ⟨rfl, hB2⟩
  have HB2 := Lib.hid hB2
  clear hB2
  go_wp2_with fail
  refine (HMA.out _).mono ?_
  rintro e w3 ⟨rfl, hB3⟩
  have HB3 := Lib.hid (belowVia hB3 HB2.out)
  clear hB3
  go_wp2_with fail
  go_loopw [4, 5] (fun v i wr => ∃ k : Nat, k ≤ s.size ∧ i = .int .i64 k ∧ v = .int .i64 (-(natV (T.take (k - 1)) : Nat)) ∧ wr = w3) (fun _ i _ => s.size - (intOf i).toNat)
  case atStart => exact ⟨0, by omega, rfl, rfl, rfl⟩
  case round =>
    obtain ⟨k, hk, rfl, rfl, rfl⟩ := hrel
    by_cases hlt : k < s.size
    · have hlt' : (k : Int) < s.size := by omega
      rcases Nat.eq_zero_or_pos k with rfl | hk0
      · go_wp2_with fail
        go_roundw
        case rel => exact ⟨1, by omega, by go_num, rfl, trivial⟩
        case measure => simp [intOf]; omega
      · obtain ⟨q, rfl⟩ : ∃ q, k = q + 1 := ⟨k - 1, by omega⟩
        obtain ⟨h2, h3⟩ := HAT.out (q + 1) hlt
        rw [List.getElem_cons_succ] at h3
        have h2' : q < T.length := by have := HSZ.out; omega
        obtain ⟨d1, d2⟩ := dig_val (HDG.out _ (List.getElem_mem h2'))
        have hnx := natV_next T h2'
        have hpt := natV_part T (q + 1)
        rw [HNV.out] at hpt
        rw [← h3] at d1 d2 hnx
        rw [Nat.add_sub_cancel]
        generalize (s[q + 1]).toNat - 48 = x at *
        generalize natV (T.take q) = V at *
        have HV2 := Lib.hid hnx
        have hxb : (x : Int) ≤ 9 := by omega
        have hVb : 10 * (V : Int) + x ≤ 9223372036854775808 := by omega
        have hne : (((s[q + 1]).toNat : Int) == 45) = false := by rw [beq_eq_false_iff_ne]; omega
        have hw : IntKind.u8.wrap (((s[q + 1]).toNat : Int) - 48) = (x : Nat) := by rw [d1, IntKind.wrap_u8]; omega
        clear h3 d1 d2 hnx hpt
        go_wp2_with fail
        go_roundw
        case rel => exact ⟨q + 1 + 1, by omega, by go_num, by rw [Nat.add_sub_cancel, HV2.out]; go_num, trivial⟩
        case measure => simp [intOf]; omega
    · obtain rfl : k = s.size := by omega
      have HE : Hid (natV (T.take (s.size - 1)) = n) := by show _ = _; rw [← HSZ.out, Nat.add_sub_cancel, List.take_length, HNV.out]
      clear hlt
      go_wp2_with fail
      go_ret2
      exact ⟨by rw [HE.out]; rfl, HB3.out⟩
theorem rto_ok (z : Int) (hz : Fits z) (hi : InInt z) (w : World) :
    Calls Tryz.prog 37 #[.string (intB z)] w fun e w' => e = .returned (.tuple #[.int .i64 z, .int .i64 0]) ∧ Below w.heap.size w w' := by
  by_cases h : z < 0
  · exact rto_neg z hz hi h w
  · exact rto_pos z hz hi (by omega) w
end Go.Proofs.YtaljjdmafialgaaGreatDoor
