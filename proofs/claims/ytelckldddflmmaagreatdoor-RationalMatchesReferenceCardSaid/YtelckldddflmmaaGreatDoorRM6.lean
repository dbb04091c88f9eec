/- Several texts of layers 3 and 4, one behind the other: IntRefOps, IntRefInts, RatRef1, RatRef2, RatSmall, RatLong, LawKit. -/
import Derived.WalkKit
import Derived.ProofKit
import Derived.OpenShut
import Derived.Carry
import Derived.Deep.DeepHandedRow
import Derived.Lib.LaidTab
import Derived.Test.YtelckldddflmmaaGreatDoorCards
import Derived.Test.YtelckldddflmmaaGreatDoorTie
import Derived.Test.YtelckldddflmmaaGreatDoorRM5
/- IntRefOps: The reference's Add, Sub, Mul, Compare, Div and Gcd, on valid integers and on other texts. -/
namespace Go.Proofs.YtelckldddflmmaaGreatDoor
open Go.RowKit Putlog

theorem sgn_fits (neg : Bool) (n : Nat) : Fits (sgn neg n) ↔ (digsL 10 n).length ≤ 200 := by
  rw [digsL_len (by decide)]
  unfold Fits sgn
  cases neg <;> simp
theorem sgn_of (z : Int) : sgn (decide (z < 0)) z.natAbs = z := by
  unfold sgn
  by_cases h : z < 0
  · rw [if_pos (by simpa using h)]; omega
  · rw [if_neg (by simpa using h)]; omega
theorem sgn_neg (z : Int) : sgn (!decide (z < 0)) z.natAbs = -z := by
  unfold sgn
  by_cases h : z < 0
  · rw [if_neg (by simpa using h)]; omega
  · rw [if_pos (by simpa using h)]; omega
theorem ten_sgnmul (x y : Int) : sgn (decide (x < 0) != decide (y < 0)) (x.natAbs * y.natAbs) = x * y := by
  have h3 : ((x.natAbs * y.natAbs : Nat) : Int) = (x.natAbs : Int) * (y.natAbs : Int) := Int.natCast_mul _ _
  unfold sgn
  by_cases h : x < 0 <;> by_cases k : y < 0
  · have e1 : (x.natAbs : Int) = -x := by omega
    have e2 : (y.natAbs : Int) = -y := by omega
    rw [if_neg (by simp [h, k]), h3, e1, e2, Int.neg_mul_neg]
  · have e1 : (x.natAbs : Int) = -x := by omega
    have e2 : (y.natAbs : Int) = y := by omega
    rw [if_pos (by simp [h]; omega), h3, e1, e2, Int.neg_mul, Int.neg_neg]
  · have e1 : (x.natAbs : Int) = x := by omega
    have e2 : (y.natAbs : Int) = -y := by omega
    rw [if_pos (by simp [k]; omega), h3, e1, e2, Int.mul_neg, Int.neg_neg]
  · have e1 : (x.natAbs : Int) = x := by omega
    have e2 : (y.natAbs : Int) = y := by omega
    rw [if_neg (by simp; omega), h3, e1, e2]
theorem fits_len {z : Int} (h : Fits z) : (digsL 10 z.natAbs).length ≤ 200 := (digsL_len (by decide) _ _).2 h
theorem fits_size {z : Int} (h : Fits z) : ((intB z).size : Int) ≤ 9223372036854775807 := by have := intT_size h (by decide); omega
theorem rvalid_int (z : Int) (h : Fits z) (w : World) : Calls Tryz.prog 53 #[.string (intB z)] w fun e w' => e = .returned (.bool true) ∧ w' = w := by
  have h2 := rvalid_any (intB z) (fits_size h) w
  have h3 : validT (intB z).data.toList = true := by
    show validT (intT z).toArray.toList = true
    rw [List.toList_toArray]; exact (validT_int z).2 h
  rwa [h3] at h2
set_option maxRecDepth 100000 in
set_option maxHeartbeats 2000000 in
theorem rchecked_any (neg : Bool) (n : Nat) (hn : (digsL 10 n).length ≤ 5000) (v : Value) (w : World) (hv : NumsAt w v (digsL 10 n)) :
    Calls Tryz.prog 66 #[.bool neg, v] w (GivesInt (okS (sgn neg n)) (okE (sgn neg n)) w) := by
  have hT := rtext_any neg (digsL 10 n) (by omega) (digsL_dig (by decide) n) (digsL_norm (by decide) n) v w hv
  rw [leV_digsL (by decide)] at hT
  unfold GivesInt
  by_cases hf : (digsL 10 n).length ≤ 200
  · rw [okS_fits ((sgn_fits neg n).2 hf), okE_fits ((sgn_fits neg n).2 hf)]
    rw [show decide (((digsL 10 n).length : Int) ≤ 200) = true by simp; omega] at hT
    have HT := Lib.hid hT
    obtain ⟨_, _, rfl, _⟩ := hv
    clear hT hf
    generalize intB (sgn neg n) = s at *
    go_enter Tryz.func66, Tryz.ntmps66
    go_wp2_with fail
    refine HT.out.mono ?_
    rintro e w1 ⟨rfl, hB⟩
    have HB := Lib.hid hB
    clear hB
    go_wp2_with fail
    go_ret2
    exact ⟨rfl, HB.out⟩
  · have hnf : ¬ Fits (sgn neg n) := fun h => hf ((sgn_fits neg n).1 h)
    rw [show okS (sgn neg n) = ⟨#[]⟩ from if_neg hnf, show okE (sgn neg n) = 30 from if_neg hnf]
    rw [show decide (((digsL 10 n).length : Int) ≤ 200) = false by simp; omega] at hT
    have HT := Lib.hid hT
    obtain ⟨_, _, rfl, _⟩ := hv
    clear hT hf hnf
    generalize intB (sgn neg n) = s at *
    go_enter Tryz.func66, Tryz.ntmps66
    go_wp2_with fail
    refine HT.out.mono ?_
    rintro e w1 ⟨rfl, hB⟩
    have HB := Lib.hid hB
    clear hB
    go_wp2_with fail
    go_ret2
    exact ⟨rfl, HB.out⟩

set_option maxRecDepth 100000 in
set_option maxHeartbeats 4000000 in
theorem rsum_any (p q : Bool) (a b : Nat) (ha : (digsL 10 a).length ≤ 1000) (hb : (digsL 10 b).length ≤ 1000) (u v : Value) (w : World) (hu : NumsAt w u (digsL 10 a)) (hv : NumsAt w v (digsL 10 b)) :
    Calls Tryz.prog 65 #[.bool p, u, .bool q, v] w (GivesInt (okS (sgn p a + sgn q b)) (okE (sgn p a + sgn q b)) w) := by
  have HU := Lib.hid hu
  have HV := Lib.hid hv
  by_cases hpq : p = q
  · subst hpq
    have hz : sgn p a + sgn p b = sgn p (a + b) := by cases p <;> simp [sgn] <;> omega
    rw [hz]
    have HP := Lib.hid (rplusN a b (by omega) (by omega) u v w hu hv)
    have HC := Lib.hid (fun v W h => rchecked_any p (a + b) (by have := dlen_add ha hb; omega) v W h)
    obtain ⟨_, _, rfl, _⟩ := hu
    obtain ⟨_, _, rfl, _⟩ := hv
    have hpp : (p == p) = true := by simp
    clear hz ha hb
    unfold GivesInt at *
    go_enter Tryz.func65, Tryz.ntmps65
    go_wp2_with fail
    refine HP.out.mono ?_
    rintro e w1 ⟨⟨r, rfl, hr⟩, hB1⟩
    have HR := Lib.hid hr
    have HB1 := Lib.hid hB1
    obtain ⟨_, _, rfl, _⟩ := hr
    clear hB1
    go_wp2_with fail
    refine (HC.out _ _ HR.out).mono ?_
    rintro e w2 ⟨rfl, hB2⟩
    have HB2 := Lib.hid (belowVia hB2 HB1.out)
    clear hB2
    go_wp2_with fail
    go_ret2
    exact ⟨rfl, HB2.out⟩
  · have hqp : q = !p := by cases p <;> cases q <;> simp at hpq ⊢
    subst hqp
    have hpp : (p == !p) = false := by cases p <;> rfl
    obtain ⟨kk, hkk⟩ : ∃ kk, kk = cmpI (a : Nat) (b : Nat) := ⟨_, rfl⟩
    have hkb : -1 ≤ kk ∧ kk ≤ 1 := by rw [hkk]; unfold cmpI; split <;> (try split) <;> omega
    obtain ⟨hkb1, hkb2⟩ := hkb
    have hO := rcmpN a b (by omega) (by omega) u v w hu hv
    rw [← hkk] at hO
    have HO := Lib.hid hO
    clear hpq hO
    rcases Nat.lt_or_ge a b with hab | hab
    · have hk0 : kk < 0 := by rw [hkk]; unfold cmpI; rw [if_pos (by omega)]; omega
      have hz : sgn p a + sgn (!p) b = sgn (!p) (b - a) := by cases p <;> simp [sgn] <;> omega
      rw [hz]
      have HM := Lib.hid (fun W hu hv => rminusN b a (by omega) (by omega) v u W hv hu)
      have HC := Lib.hid (fun v W h => rchecked_any (!p) (b - a) (by have := dlen_mono (Nat.sub_le b a) hb; omega) v W h)
      obtain ⟨_, _, rfl, _⟩ := hu
      obtain ⟨_, _, rfl, _⟩ := hv
      clear hz ha hb hkk hab
      generalize (!p) = np at *
      unfold GivesInt at *
      go_enter Tryz.func65, Tryz.ntmps65
      go_wp2_with fail
      refine HO.out.mono ?_
      rintro e w0 ⟨rfl, hB0⟩
      have HB0 := Lib.hid hB0
      clear hB0
      go_wp2_with fail
      refine (HM.out _ (NumsAt.via HB0.out HU.out) (NumsAt.via HB0.out HV.out)).mono ?_
      rintro e w1 ⟨⟨r, rfl, hr, _⟩, hB1⟩
      have HR := Lib.hid hr
      have HB1 := Lib.hid (belowVia hB1 HB0.out)
      obtain ⟨_, _, rfl, _⟩ := hr
      clear hB1
      go_wp2_with fail
      refine (HC.out _ _ HR.out).mono ?_
      rintro e w2 ⟨rfl, hB2⟩
      have HB2 := Lib.hid (belowVia hB2 HB1.out)
      clear hB2
      go_wp2_with fail
      go_ret2
      exact ⟨rfl, HB2.out⟩
    · have hk0 : 0 ≤ kk := by rw [hkk]; unfold cmpI; rw [if_neg (by omega)]; split <;> omega
      have hz : sgn p a + sgn (!p) b = sgn p (a - b) := by cases p <;> simp [sgn] <;> omega
      rw [hz]
      have HM := Lib.hid (fun W hu hv => rminusN a b (by omega) (by omega) u v W hu hv)
      have HC := Lib.hid (fun v W h => rchecked_any p (a - b) (by have := dlen_mono (Nat.sub_le a b) ha; omega) v W h)
      obtain ⟨_, _, rfl, _⟩ := hu
      obtain ⟨_, _, rfl, _⟩ := hv
      clear hz ha hb hkk hab
      generalize (!p) = np at *
      unfold GivesInt at *
      go_enter Tryz.func65, Tryz.ntmps65
      go_wp2_with fail
      refine HO.out.mono ?_
      rintro e w0 ⟨rfl, hB0⟩
      have HB0 := Lib.hid hB0
      clear hB0
      go_wp2_with fail
      refine (HM.out _ (NumsAt.via HB0.out HU.out) (NumsAt.via HB0.out HV.out)).mono ?_
      rintro e w1 ⟨⟨r, rfl, hr, _⟩, hB1⟩
      have HR := Lib.hid hr
      have HB1 := Lib.hid (belowVia hB1 HB0.out)
      obtain ⟨_, _, rfl, _⟩ := hr
      clear hB1
      go_wp2_with fail
      refine (HC.out _ _ HR.out).mono ?_
      rintro e w2 ⟨rfl, hB2⟩
      have HB2 := Lib.hid (belowVia hB2 HB1.out)
      clear hB2
      go_wp2_with fail
      go_ret2
      exact ⟨rfl, HB2.out⟩

set_option maxRecDepth 100000 in
theorem radd_no (s t : ByteArray) (hs : (s.size : Int) ≤ 9223372036854775807) (ht : (t.size : Int) ≤ 9223372036854775807) (h : (validT s.data.toList && validT t.data.toList) = false) (w : World) :
    Calls Tryz.prog 39 #[.string s, .string t] w (GivesInt ⟨#[]⟩ 30 w) := by
  have hVs := rvalid_any s hs
  have hVt := rvalid_any t ht
  by_cases h1 : validT s.data.toList = true
  · have h2 : validT t.data.toList = false := by rw [h1] at h; simpa using h
    rw [h1] at hVs
    rw [h2] at hVt
    have HVS := Lib.hid hVs
    have HVT := Lib.hid hVt
    clear hVs hVt h1 h2 h
    go_enter Tryz.func39, Tryz.ntmps39
    go_wp2_with fail
    refine (HVS.out _).mono ?_
    rintro e w1 ⟨rfl, rfl⟩
    go_wp2_with fail
    refine (HVT.out _).mono ?_
    rintro e w1 ⟨rfl, rfl⟩
    go_wp2_with fail
    go_ret2
    exact ⟨rfl, Below.refl _ _⟩
  · rw [Bool.not_eq_true] at h1
    rw [h1] at hVs
    have HVS := Lib.hid hVs
    clear hVs hVt h1 h
    go_enter Tryz.func39, Tryz.ntmps39
    go_wp2_with fail
    refine (HVS.out _).mono ?_
    rintro e w1 ⟨rfl, rfl⟩
    go_wp2_with fail
    go_ret2
    exact ⟨rfl, Below.refl _ _⟩

set_option maxRecDepth 100000 in
theorem rsub_no (s t : ByteArray) (hs : (s.size : Int) ≤ 9223372036854775807) (ht : (t.size : Int) ≤ 9223372036854775807) (h : (validT s.data.toList && validT t.data.toList) = false) (w : World) :
    Calls Tryz.prog 40 #[.string s, .string t] w (GivesInt ⟨#[]⟩ 30 w) := by
  have hVs := rvalid_any s hs
  have hVt := rvalid_any t ht
  by_cases h1 : validT s.data.toList = true
  · have h2 : validT t.data.toList = false := by rw [h1] at h; simpa using h
    rw [h1] at hVs
    rw [h2] at hVt
    have HVS := Lib.hid hVs
    have HVT := Lib.hid hVt
    clear hVs hVt h1 h2 h
    go_enter Tryz.func40, Tryz.ntmps40
    go_wp2_with fail
    refine (HVS.out _).mono ?_
    rintro e w1 ⟨rfl, rfl⟩
    go_wp2_with fail
    refine (HVT.out _).mono ?_
    rintro e w1 ⟨rfl, rfl⟩
    go_wp2_with fail
    go_ret2
    exact ⟨rfl, Below.refl _ _⟩
  · rw [Bool.not_eq_true] at h1
    rw [h1] at hVs
    have HVS := Lib.hid hVs
    clear hVs hVt h1 h
    go_enter Tryz.func40, Tryz.ntmps40
    go_wp2_with fail
    refine (HVS.out _).mono ?_
    rintro e w1 ⟨rfl, rfl⟩
    go_wp2_with fail
    go_ret2
    exact ⟨rfl, Below.refl _ _⟩

set_option maxRecDepth 100000 in
theorem rmul_no (s t : ByteArray) (hs : (s.size : Int) ≤ 9223372036854775807) (ht : (t.size : Int) ≤ 9223372036854775807) (h : (validT s.data.toList && validT t.data.toList) = false) (w : World) :
    Calls Tryz.prog 41 #[.string s, .string t] w (GivesInt ⟨#[]⟩ 30 w) := by
  have hVs := rvalid_any s hs
  have hVt := rvalid_any t ht
  by_cases h1 : validT s.data.toList = true
  · have h2 : validT t.data.toList = false := by rw [h1] at h; simpa using h
    rw [h1] at hVs
    rw [h2] at hVt
    have HVS := Lib.hid hVs
    have HVT := Lib.hid hVt
    clear hVs hVt h1 h2 h
    go_enter Tryz.func41, Tryz.ntmps41
    go_wp2_with fail
    refine (HVS.out _).mono ?_
    rintro e w1 ⟨rfl, rfl⟩
    go_wp2_with fail
    refine (HVT.out _).mono ?_
    rintro e w1 ⟨rfl, rfl⟩
    go_wp2_with fail
    go_ret2
    exact ⟨rfl, Below.refl _ _⟩
  · rw [Bool.not_eq_true] at h1
    rw [h1] at hVs
    have HVS := Lib.hid hVs
    clear hVs hVt h1 h
    go_enter Tryz.func41, Tryz.ntmps41
    go_wp2_with fail
    refine (HVS.out _).mono ?_
    rintro e w1 ⟨rfl, rfl⟩
    go_wp2_with fail
    go_ret2
    exact ⟨rfl, Below.refl _ _⟩

set_option maxRecDepth 100000 in
theorem rgcd_no (s t : ByteArray) (hs : (s.size : Int) ≤ 9223372036854775807) (ht : (t.size : Int) ≤ 9223372036854775807) (h : (validT s.data.toList && validT t.data.toList) = false) (w : World) :
    Calls Tryz.prog 54 #[.string s, .string t] w (GivesInt ⟨#[]⟩ 30 w) := by
  have hVs := rvalid_any s hs
  have hVt := rvalid_any t ht
  by_cases h1 : validT s.data.toList = true
  · have h2 : validT t.data.toList = false := by rw [h1] at h; simpa using h
    rw [h1] at hVs
    rw [h2] at hVt
    have HVS := Lib.hid hVs
    have HVT := Lib.hid hVt
    clear hVs hVt h1 h2 h
    go_enter Tryz.func54, Tryz.ntmps54
    go_wp2_with fail
    refine (HVS.out _).mono ?_
    rintro e w1 ⟨rfl, rfl⟩
    go_wp2_with fail
    refine (HVT.out _).mono ?_
    rintro e w1 ⟨rfl, rfl⟩
    go_wp2_with fail
    go_ret2
    exact ⟨rfl, Below.refl _ _⟩
  · rw [Bool.not_eq_true] at h1
    rw [h1] at hVs
    have HVS := Lib.hid hVs
    clear hVs hVt h1 h
    go_enter Tryz.func54, Tryz.ntmps54
    go_wp2_with fail
    refine (HVS.out _).mono ?_
    rintro e w1 ⟨rfl, rfl⟩
    go_wp2_with fail
    go_ret2
    exact ⟨rfl, Below.refl _ _⟩

set_option maxRecDepth 100000 in
theorem rcompare_no (s t : ByteArray) (hs : (s.size : Int) ≤ 9223372036854775807) (ht : (t.size : Int) ≤ 9223372036854775807) (h : (validT s.data.toList && validT t.data.toList) = false) (w : World) :
    Calls Tryz.prog 45 #[.string s, .string t] w fun e w' => e = .returned (.int .i64 0) ∧ Below w.heap.size w w' := by
  have hVs := rvalid_any s hs
  have hVt := rvalid_any t ht
  by_cases h1 : validT s.data.toList = true
  · have h2 : validT t.data.toList = false := by rw [h1] at h; simpa using h
    rw [h1] at hVs
    rw [h2] at hVt
    have HVS := Lib.hid hVs
    have HVT := Lib.hid hVt
    clear hVs hVt h1 h2 h
    go_enter Tryz.func45, Tryz.ntmps45
    go_wp2_with fail
    refine (HVS.out _).mono ?_
    rintro e w1 ⟨rfl, rfl⟩
    go_wp2_with fail
    refine (HVT.out _).mono ?_
    rintro e w1 ⟨rfl, rfl⟩
    go_wp2_with fail
    go_ret
    exact ⟨rfl, Below.refl _ _⟩
  · rw [Bool.not_eq_true] at h1
    rw [h1] at hVs
    have HVS := Lib.hid hVs
    clear hVs hVt h1 h
    go_enter Tryz.func45, Tryz.ntmps45
    go_wp2_with fail
    refine (HVS.out _).mono ?_
    rintro e w1 ⟨rfl, rfl⟩
    go_wp2_with fail
    go_ret
    exact ⟨rfl, Below.refl _ _⟩

set_option maxRecDepth 100000 in
theorem rdiv_no (s t : ByteArray) (hs : (s.size : Int) ≤ 9223372036854775807) (ht : (t.size : Int) ≤ 9223372036854775807) (h : (validT s.data.toList && validT t.data.toList) = false) (w : World) :
    Calls Tryz.prog 44 #[.string s, .string t] w fun e w' => e = .returned (.tuple #[.string ⟨#[]⟩, .string ⟨#[]⟩, .int .i64 30]) ∧ Below w.heap.size w w' := by
  have hVs := rvalid_any s hs
  have hVt := rvalid_any t ht
  by_cases h1 : validT s.data.toList = true
  · have h2 : validT t.data.toList = false := by rw [h1] at h; simpa using h
    rw [h1] at hVs
    rw [h2] at hVt
    have HVS := Lib.hid hVs
    have HVT := Lib.hid hVt
    clear hVs hVt h1 h2 h
    go_enter Tryz.func44, Tryz.ntmps44
    go_wp2_with fail
    refine (HVS.out _).mono ?_
    rintro e w1 ⟨rfl, rfl⟩
    go_wp2_with fail
    refine (HVT.out _).mono ?_
    rintro e w1 ⟨rfl, rfl⟩
    go_wp2_with fail
    go_ret3
    exact ⟨rfl, Below.refl _ _⟩
  · rw [Bool.not_eq_true] at h1
    rw [h1] at hVs
    have HVS := Lib.hid hVs
    clear hVs hVt h1 h
    go_enter Tryz.func44, Tryz.ntmps44
    go_wp2_with fail
    refine (HVS.out _).mono ?_
    rintro e w1 ⟨rfl, rfl⟩
    go_wp2_with fail
    go_ret3
    exact ⟨rfl, Below.refl _ _⟩

set_option maxRecDepth 100000 in
set_option maxHeartbeats 2000000 in
theorem radd_ok (x y : Int) (hx : Fits x) (hy : Fits y) (w : World) :
    Calls Tryz.prog 39 #[.string (intB x), .string (intB y)] w (GivesInt (okS (x + y)) (okE (x + y)) w) := by
  have HVS := Lib.hid (rvalid_int x hx)
  have HVT := Lib.hid (rvalid_int y hy)
  have HDX := Lib.hid (rdigits_any x hx)
  have HDY := Lib.hid (rdigits_any y hy)
  have hlx := fits_len hx
  have hly := fits_len hy
  have hS := fun u v W h1 h2 => rsum_any (decide (x < 0)) (decide (y < 0)) x.natAbs y.natAbs (by omega) (by omega) u v W h1 h2
  rw [sgn_of, sgn_of] at hS
  have HS := Lib.hid hS
  clear hS
  clear hlx hly hx hy
  generalize decide (x < 0) = bx at *
  generalize decide (y < 0) = by' at *
  go_enter Tryz.func39, Tryz.ntmps39
  go_wp2_with fail
  refine (HVS.out _).mono ?_
  rintro e w1 ⟨rfl, rfl⟩
  go_wp2_with fail
  refine (HVT.out _).mono ?_
  rintro e w1 ⟨rfl, rfl⟩
  go_wp2_with fail
  refine (HDX.out _).mono ?_
  rintro e w2 ⟨⟨u, rfl, hu⟩, hB2⟩
  have HU := Lib.hid hu
  have HB2 := Lib.hid hB2
  obtain ⟨_, _, rfl, _⟩ := hu
  clear hB2
  go_wp2_with fail
  refine (HDY.out _).mono ?_
  rintro e w3 ⟨⟨v, rfl, hv⟩, hB3⟩
  have HU3 := Lib.hid (NumsAt.via hB3 HU.out)
  have HV3 := Lib.hid hv
  have HB3 := Lib.hid (belowVia hB3 HB2.out)
  obtain ⟨_, _, rfl, _⟩ := hv
  clear hB3
  go_wp2_with fail
  refine (HS.out _ _ _ HU3.out HV3.out).mono ?_
  rintro e w4 ⟨rfl, hB4⟩
  have HB9 := Lib.hid (belowVia hB4 HB3.out)
  clear hB4
  go_wp2_with fail
  go_ret2
  exact ⟨rfl, HB9.out⟩

set_option maxRecDepth 100000 in
set_option maxHeartbeats 2000000 in
theorem rsub_ok (x y : Int) (hx : Fits x) (hy : Fits y) (w : World) :
    Calls Tryz.prog 40 #[.string (intB x), .string (intB y)] w (GivesInt (okS (x - y)) (okE (x - y)) w) := by
  have HVS := Lib.hid (rvalid_int x hx)
  have HVT := Lib.hid (rvalid_int y hy)
  have HDX := Lib.hid (rdigits_any x hx)
  have HDY := Lib.hid (rdigits_any y hy)
  have hlx := fits_len hx
  have hly := fits_len hy
  have hS := fun u v W h1 h2 => rsum_any (decide (x < 0)) (!decide (y < 0)) x.natAbs y.natAbs (by omega) (by omega) u v W h1 h2
  rw [sgn_of, sgn_neg, ← Int.sub_eq_add_neg] at hS
  have HS := Lib.hid hS
  clear hS
  clear hlx hly hx hy
  generalize decide (x < 0) = bx at *
  generalize decide (y < 0) = by' at *
  go_enter Tryz.func40, Tryz.ntmps40
  go_wp2_with fail
  refine (HVS.out _).mono ?_
  rintro e w1 ⟨rfl, rfl⟩
  go_wp2_with fail
  refine (HVT.out _).mono ?_
  rintro e w1 ⟨rfl, rfl⟩
  go_wp2_with fail
  refine (HDX.out _).mono ?_
  rintro e w2 ⟨⟨u, rfl, hu⟩, hB2⟩
  have HU := Lib.hid hu
  have HB2 := Lib.hid hB2
  obtain ⟨_, _, rfl, _⟩ := hu
  clear hB2
  go_wp2_with fail
  refine (HDY.out _).mono ?_
  rintro e w3 ⟨⟨v, rfl, hv⟩, hB3⟩
  have HU3 := Lib.hid (NumsAt.via hB3 HU.out)
  have HV3 := Lib.hid hv
  have HB3 := Lib.hid (belowVia hB3 HB2.out)
  obtain ⟨_, _, rfl, _⟩ := hv
  clear hB3
  go_wp2_with fail
  refine (HS.out _ _ _ HU3.out HV3.out).mono ?_
  rintro e w4 ⟨rfl, hB4⟩
  have HB9 := Lib.hid (belowVia hB4 HB3.out)
  clear hB4
  go_wp2_with fail
  go_ret2
  exact ⟨rfl, HB9.out⟩

set_option maxRecDepth 100000 in
set_option maxHeartbeats 2000000 in
theorem rmul_ok (x y : Int) (hx : Fits x) (hy : Fits y) (w : World) :
    Calls Tryz.prog 41 #[.string (intB x), .string (intB y)] w (GivesInt (okS (x * y)) (okE (x * y)) w) := by
  have HVS := Lib.hid (rvalid_int x hx)
  have HVT := Lib.hid (rvalid_int y hy)
  have HDX := Lib.hid (rdigits_any x hx)
  have HDY := Lib.hid (rdigits_any y hy)
  have hlx := fits_len hx
  have hly := fits_len hy
  have HT := Lib.hid (fun u v W h1 h2 => rtimesN x.natAbs y.natAbs (by omega) (by omega) u v W h1 h2)
  have hC := fun v W h => rchecked_any (decide (x < 0) != decide (y < 0)) (x.natAbs * y.natAbs) (by have := dlen_mul hlx hly; omega) v W h
  rw [ten_sgnmul] at hC
  have HC := Lib.hid hC
  clear hC
  clear hlx hly hx hy
  generalize decide (x < 0) = bx at *
  generalize decide (y < 0) = by' at *
  go_enter Tryz.func41, Tryz.ntmps41
  go_wp2_with fail
  refine (HVS.out _).mono ?_
  rintro e w1 ⟨rfl, rfl⟩
  go_wp2_with fail
  refine (HVT.out _).mono ?_
  rintro e w1 ⟨rfl, rfl⟩
  go_wp2_with fail
  refine (HDX.out _).mono ?_
  rintro e w2 ⟨⟨u, rfl, hu⟩, hB2⟩
  have HU := Lib.hid hu
  have HB2 := Lib.hid hB2
  obtain ⟨_, _, rfl, _⟩ := hu
  clear hB2
  go_wp2_with fail
  refine (HDY.out _).mono ?_
  rintro e w3 ⟨⟨v, rfl, hv⟩, hB3⟩
  have HU3 := Lib.hid (NumsAt.via hB3 HU.out)
  have HV3 := Lib.hid hv
  have HB3 := Lib.hid (belowVia hB3 HB2.out)
  obtain ⟨_, _, rfl, _⟩ := hv
  clear hB3
  go_wp2_with fail
  refine (HT.out _ _ _ HU3.out HV3.out).mono ?_
  rintro e w4 ⟨⟨r, rfl, hr⟩, hB4⟩
  have HR := Lib.hid hr
  have HB4 := Lib.hid (belowVia hB4 HB3.out)
  obtain ⟨_, _, rfl, _⟩ := hr
  clear hB4
  go_wp2_with fail
  refine (HC.out _ _ HR.out).mono ?_
  rintro e w5 ⟨rfl, hB5⟩
  have HB9 := Lib.hid (belowVia hB5 HB4.out)
  clear hB5
  go_wp2_with fail
  go_ret2
  exact ⟨rfl, HB9.out⟩

set_option maxRecDepth 100000 in
set_option maxHeartbeats 2000000 in
theorem rcompare_ok (x y : Int) (hx : Fits x) (hy : Fits y) (w : World) :
    Calls Tryz.prog 45 #[.string (intB x), .string (intB y)] w fun e w' => e = .returned (.int .i64 (cmpI x y)) ∧ Below w.heap.size w w' := by
  have HVS := Lib.hid (rvalid_int x hx)
  have HVT := Lib.hid (rvalid_int y hy)
  have HDX := Lib.hid (rdigits_any x hx)
  have HDY := Lib.hid (rdigits_any y hy)
  have hlx := fits_len hx
  have hly := fits_len hy
  by_cases hxn : x < 0 <;> by_cases hyn : y < 0
  · have hbx : decide (x < 0) = true := by simpa using hxn
    have hby : decide (y < 0) = true := by simpa using hyn
    rw [hbx] at HDX
    rw [hby] at HDY
    have hO := fun u v W h1 h2 => rcmpN y.natAbs x.natAbs (by omega) (by omega) u v W h1 h2
    have hc : cmpI (y.natAbs : Nat) (x.natAbs : Nat) = cmpI x y := by unfold cmpI; split <;> split <;> (try split) <;> (try split) <;> omega
    rw [hc] at hO
    have HO := Lib.hid hO
    have hkb : -1 ≤ cmpI x y ∧ cmpI x y ≤ 1 := by unfold cmpI; split <;> (try split) <;> omega
    obtain ⟨hkb1, hkb2⟩ := hkb
    generalize cmpI x y = kk at *
    clear hO hc
    clear hlx hly hx hy hbx hby hxn hyn
    go_enter Tryz.func45, Tryz.ntmps45
    go_wp2_with fail
    refine (HVS.out _).mono ?_
    rintro e w1 ⟨rfl, rfl⟩
    go_wp2_with fail
    refine (HVT.out _).mono ?_
    rintro e w1 ⟨rfl, rfl⟩
    go_wp2_with fail
    refine (HDX.out _).mono ?_
    rintro e w2 ⟨⟨u, rfl, hu⟩, hB2⟩
    have HU := Lib.hid hu
    have HB2 := Lib.hid hB2
    obtain ⟨_, _, rfl, _⟩ := hu
    clear hB2
    go_wp2_with fail
    refine (HDY.out _).mono ?_
    rintro e w3 ⟨⟨v, rfl, hv⟩, hB3⟩
    have HU3 := Lib.hid (NumsAt.via hB3 HU.out)
    have HV3 := Lib.hid hv
    have HB3 := Lib.hid (belowVia hB3 HB2.out)
    obtain ⟨_, _, rfl, _⟩ := hv
    clear hB3
    go_wp2_with fail
    refine (HO.out _ _ _ HV3.out HU3.out).mono ?_
    rintro e w4 ⟨rfl, hB4⟩
    have HB9 := Lib.hid (belowVia hB4 HB3.out)
    clear hB4
    go_wp2_with fail
    go_ret
    exact ⟨rfl, HB9.out⟩
  · have hbx : decide (x < 0) = true := by simpa using hxn
    have hby : decide (y < 0) = false := by simpa using hyn
    rw [hbx] at HDX
    rw [hby] at HDY
    have hc : cmpI x y = -1 := by unfold cmpI; split <;> (try split) <;> omega
    rw [hc]
    clear hc
    clear hlx hly hx hy hbx hby hxn hyn
    go_enter Tryz.func45, Tryz.ntmps45
    go_wp2_with fail
    refine (HVS.out _).mono ?_
    rintro e w1 ⟨rfl, rfl⟩
    go_wp2_with fail
    refine (HVT.out _).mono ?_
    rintro e w1 ⟨rfl, rfl⟩
    go_wp2_with fail
    refine (HDX.out _).mono ?_
    rintro e w2 ⟨⟨u, rfl, hu⟩, hB2⟩
    have HU := Lib.hid hu
    have HB2 := Lib.hid hB2
    obtain ⟨_, _, rfl, _⟩ := hu
    clear hB2
    go_wp2_with fail
    refine (HDY.out _).mono ?_
    rintro e w3 ⟨⟨v, rfl, hv⟩, hB3⟩
    have HU3 := Lib.hid (NumsAt.via hB3 HU.out)
    have HV3 := Lib.hid hv
    have HB3 := Lib.hid (belowVia hB3 HB2.out)
    obtain ⟨_, _, rfl, _⟩ := hv
    clear hB3
    go_wp2_with fail
    go_ret
    exact ⟨rfl, HB3.out⟩
  · have hbx : decide (x < 0) = false := by simpa using hxn
    have hby : decide (y < 0) = true := by simpa using hyn
    rw [hbx] at HDX
    rw [hby] at HDY
    have hc : cmpI x y = 1 := by unfold cmpI; split <;> (try split) <;> omega
    rw [hc]
    clear hc
    clear hlx hly hx hy hbx hby hxn hyn
    go_enter Tryz.func45, Tryz.ntmps45
    go_wp2_with fail
    refine (HVS.out _).mono ?_
    rintro e w1 ⟨rfl, rfl⟩
    go_wp2_with fail
    refine (HVT.out _).mono ?_
    rintro e w1 ⟨rfl, rfl⟩
    go_wp2_with fail
    refine (HDX.out _).mono ?_
    rintro e w2 ⟨⟨u, rfl, hu⟩, hB2⟩
    have HU := Lib.hid hu
    have HB2 := Lib.hid hB2
    obtain ⟨_, _, rfl, _⟩ := hu
    clear hB2
    go_wp2_with fail
    refine (HDY.out _).mono ?_
    rintro e w3 ⟨⟨v, rfl, hv⟩, hB3⟩
    have HU3 := Lib.hid (NumsAt.via hB3 HU.out)
    have HV3 := Lib.hid hv
    have HB3 := Lib.hid (belowVia hB3 HB2.out)
    obtain ⟨_, _, rfl, _⟩ := hv
    clear hB3
    go_wp2_with fail
    go_ret
    exact ⟨rfl, HB3.out⟩
  · have hbx : decide (x < 0) = false := by simpa using hxn
    have hby : decide (y < 0) = false := by simpa using hyn
    rw [hbx] at HDX
    rw [hby] at HDY
    have hO := fun u v W h1 h2 => rcmpN x.natAbs y.natAbs (by omega) (by omega) u v W h1 h2
    have hc : cmpI (x.natAbs : Nat) (y.natAbs : Nat) = cmpI x y := by unfold cmpI; split <;> split <;> (try split) <;> (try split) <;> omega
    rw [hc] at hO
    have HO := Lib.hid hO
    have hkb : -1 ≤ cmpI x y ∧ cmpI x y ≤ 1 := by unfold cmpI; split <;> (try split) <;> omega
    obtain ⟨hkb1, hkb2⟩ := hkb
    generalize cmpI x y = kk at *
    clear hO hc
    clear hlx hly hx hy hbx hby hxn hyn
    go_enter Tryz.func45, Tryz.ntmps45
    go_wp2_with fail
    refine (HVS.out _).mono ?_
    rintro e w1 ⟨rfl, rfl⟩
    go_wp2_with fail
    refine (HVT.out _).mono ?_
    rintro e w1 ⟨rfl, rfl⟩
    go_wp2_with fail
    refine (HDX.out _).mono ?_
    rintro e w2 ⟨⟨u, rfl, hu⟩, hB2⟩
    have HU := Lib.hid hu
    have HB2 := Lib.hid hB2
    obtain ⟨_, _, rfl, _⟩ := hu
    clear hB2
    go_wp2_with fail
    refine (HDY.out _).mono ?_
    rintro e w3 ⟨⟨v, rfl, hv⟩, hB3⟩
    have HU3 := Lib.hid (NumsAt.via hB3 HU.out)
    have HV3 := Lib.hid hv
    have HB3 := Lib.hid (belowVia hB3 HB2.out)
    obtain ⟨_, _, rfl, _⟩ := hv
    clear hB3
    go_wp2_with fail
    refine (HO.out _ _ _ HU3.out HV3.out).mono ?_
    rintro e w4 ⟨rfl, hB4⟩
    have HB9 := Lib.hid (belowVia hB4 HB3.out)
    clear hB4
    go_wp2_with fail
    go_ret
    exact ⟨rfl, HB9.out⟩

theorem quo_parts (x y : Int) : (x.natAbs : Int) = (y.natAbs : Int) * ((x.natAbs / y.natAbs : Nat) : Int) + ((x.natAbs % y.natAbs : Nat) : Int) := by
  have h := Nat.div_add_mod x.natAbs y.natAbs
  rw [← Int.natCast_mul, ← Int.natCast_add, h]
theorem quo_lo {x y : Int} (hy : y ≠ 0) (hc : ¬ (x < 0 ∧ 0 < x.natAbs % y.natAbs)) : sgn (decide (x < 0) != decide (y < 0)) (x.natAbs / y.natAbs) = x / y ∧ ((x.natAbs % y.natAbs : Nat) : Int) = x % y := by
  have hp := quo_parts x y
  have hr : x.natAbs % y.natAbs < y.natAbs := Nat.mod_lt _ (by omega)
  generalize x.natAbs / y.natAbs = Q at *
  generalize x.natAbs % y.natAbs = R at *
  refine ediv_unique hy ?_ (by omega) (by omega)
  unfold sgn
  by_cases h : x < 0 <;> by_cases k : y < 0
  · rw [if_neg (by simp [h, k])]
    have e1 : (x.natAbs : Int) = -x := by omega
    have e2 : (y.natAbs : Int) = -y := by omega
    rw [e1, e2, Int.neg_mul] at hp
    have hR : R = 0 := by omega
    subst hR
    rw [Int.mul_comm]; omega
  · rw [if_pos (by simp [h]; omega)]
    have e1 : (x.natAbs : Int) = -x := by omega
    have e2 : (y.natAbs : Int) = y := by omega
    rw [e1, e2] at hp
    have hR : R = 0 := by omega
    subst hR
    rw [Int.neg_mul, Int.mul_comm]; omega
  · rw [if_pos (by simp [k]; omega)]
    have e1 : (x.natAbs : Int) = x := by omega
    have e2 : (y.natAbs : Int) = -y := by omega
    rw [e1, e2, Int.neg_mul] at hp
    rw [Int.neg_mul, Int.mul_comm]; omega
  · rw [if_neg (by simp; omega)]
    have e1 : (x.natAbs : Int) = x := by omega
    have e2 : (y.natAbs : Int) = y := by omega
    rw [e1, e2] at hp
    rw [Int.mul_comm]; omega
theorem quo_hi {x y : Int} (hx : x < 0) (hr0 : 0 < x.natAbs % y.natAbs) (hy : y ≠ 0) : sgn (decide (x < 0) != decide (y < 0)) (x.natAbs / y.natAbs + 1) = x / y ∧ ((y.natAbs - x.natAbs % y.natAbs : Nat) : Int) = x % y := by
  have hp := quo_parts x y
  have hr : x.natAbs % y.natAbs < y.natAbs := Nat.mod_lt _ (by omega)
  generalize x.natAbs / y.natAbs = Q at *
  generalize x.natAbs % y.natAbs = R at *
  refine ediv_unique hy ?_ (by omega) (by omega)
  unfold sgn
  have e1 : (x.natAbs : Int) = -x := by omega
  by_cases k : y < 0
  · rw [if_neg (by simp [hx, k])]
    have e2 : (y.natAbs : Int) = -y := by omega
    rw [e1, e2, Int.neg_mul] at hp
    have e3 : ((Q + 1 : Nat) : Int) * y = y * (Q : Int) + y := by rw [Int.natCast_add, Int.mul_comm, Int.mul_add]; simp
    rw [e3]; omega
  · rw [if_pos (by simp [hx]; omega)]
    have e2 : (y.natAbs : Int) = y := by omega
    rw [e1, e2] at hp
    have e3 : -((Q + 1 : Nat) : Int) * y = -(y * (Q : Int)) - y := by rw [Int.natCast_add, Int.neg_mul, Int.mul_comm, Int.mul_add]; simp; omega
    rw [e3]; omega
theorem ten_one : digsL 10 1 = [1] := by decide +kernel
theorem lit_nums (W : World) (d : Nat) : NumsAt (W.alloc (.cells #[.int .i64 (d : Nat)] 3)) (.slice (some ⟨W.heap.size, 0, none⟩) 1 1) [d] :=
  NumsAt.of_owns (B := W.heap.size) (t := 3) (lit_one W _)
theorem quo_fits {x y : Int} (hx : Fits x) : Fits (x / y) := Nat.lt_of_le_of_lt (Int.natAbs_ediv_le_natAbs x y) hx
theorem dlen_zero {n : Nat} : (digsL 10 n).length = 0 ↔ n = 0 := by
  constructor
  · intro h
    have h1 := leV_digsL (B := 10) (by decide) n
    rw [List.length_eq_zero_iff.1 h] at h1
    exact h1.symm
  · rintro rfl; rw [digsL_zero]; rfl

set_option maxRecDepth 100000 in
theorem rdiv_zero (x : Int) (hx : Fits x) (w : World) :
    Calls Tryz.prog 44 #[.string (intB x), .string (intB 0)] w fun e w' => e = .returned (.tuple #[.string ⟨#[]⟩, .string ⟨#[]⟩, .int .i64 30]) ∧ Below w.heap.size w w' := by
  have h0 : Fits 0 := by show (0 : Int).natAbs < 10 ^ 200; exact Nat.pow_pos (by decide)
  have HVS := Lib.hid (rvalid_int x hx)
  have HVT := Lib.hid (rvalid_int 0 h0)
  have e48 : ((intB 0).toList == [48]) = true := by decide +kernel
  generalize intB 0 = t at *
  go_enter Tryz.func44, Tryz.ntmps44
  go_wp2_with fail
  refine (HVS.out _).mono ?_
  rintro e w1 ⟨rfl, rfl⟩
  go_wp2_with fail
  refine (HVT.out _).mono ?_
  rintro e w1 ⟨rfl, rfl⟩
  go_wp2_with fail
  go_ret3
  exact ⟨rfl, Below.refl _ _⟩
set_option maxRecDepth 100000 in
set_option maxHeartbeats 4000000 in
theorem rdiv_ok (x y : Int) (hx : Fits x) (hy : Fits y) (h0 : y ≠ 0) (w : World) :
    Calls Tryz.prog 44 #[.string (intB x), .string (intB y)] w fun e w' => e = .returned (.tuple #[.string (intB (x / y)), .string (intB (x % y)), .int .i64 0]) ∧ Below w.heap.size w w' := by
  have HVS := Lib.hid (rvalid_int x hx)
  have HVT := Lib.hid (rvalid_int y hy)
  have HDX := Lib.hid (rdigits_any x hx)
  have HDY := Lib.hid (rdigits_any y hy)
  have hlx := fits_len hx
  have hly := fits_len hy
  have e48 := isZero_no h0
  have hD := fun u v W h1 h2 => rdivided_any (digsL 10 x.natAbs) y.natAbs (digsL_dig (by decide) _) (by omega) (by omega) (by omega) u v W h1 h2
  rw [leV_digsL (by decide)] at hD
  have HD := Lib.hid hD
  have hql : (digsL 10 (x.natAbs / y.natAbs)).length ≤ 200 := dlen_mono (Nat.div_le_self _ _) hlx
  have hrl : (digsL 10 (x.natAbs % y.natAbs)).length ≤ 200 := dlen_mono (Nat.le_of_lt (Nat.mod_lt _ (by omega))) hly
  have hqf := quo_fits (y := y) hx
  by_cases hc : x < 0 ∧ 0 < x.natAbs % y.natAbs
  · obtain ⟨hxn, hr0⟩ := hc
    obtain ⟨e1, e2⟩ := quo_hi hxn hr0 h0
    have hlr : (0 : Int) < ((digsL 10 (x.natAbs % y.natAbs)).length : Nat) := by
      have := dlen_zero (n := x.natAbs % y.natAbs); omega
    have HP := Lib.hid (fun u v W h1 h2 => rplusN (x.natAbs / y.natAbs) 1 (by omega) (by rw [ten_one]; decide) u v W h1 h2)
    have HM := Lib.hid (fun u v W h1 h2 => rminusN y.natAbs (x.natAbs % y.natAbs) (by omega) (Nat.le_of_lt (Nat.mod_lt _ (by omega))) u v W h1 h2)
    have hC := fun v W h => rchecked_any (decide (x < 0) != decide (y < 0)) (x.natAbs / y.natAbs + 1) (by have := dlen_add (x := x.natAbs / y.natAbs) (y := 1) hql (by rw [ten_one]; decide); omega) v W h
    rw [e1, okS_fits hqf, okE_fits hqf] at hC
    have HC := Lib.hid hC
    have hT := fun v W h => rtext_any false (digsL 10 (y.natAbs - x.natAbs % y.natAbs)) (by have := dlen_mono (Nat.sub_le y.natAbs (x.natAbs % y.natAbs)) hly; omega) (digsL_dig (by decide) _) (digsL_norm (by decide) _) v W h
    rw [leV_digsL (by decide), show sgn false (y.natAbs - x.natAbs % y.natAbs) = x % y by rw [← e2]; rfl] at hT
    have HT := Lib.hid hT
    have hdx : decide (x < 0) = true := by simpa using hxn
    rw [hdx] at HDX HC
    clear hlx hly hx hy hD hC hT e1 e2 hxn hr0 hdx h0 hqf hql hrl
    generalize decide (y < 0) = by' at *
    rw [show (true != by') = !by' by cases by' <;> rfl] at HC
    unfold GivesInt at *
    go_enter Tryz.func44, Tryz.ntmps44
    go_wp2_with fail
    refine (HVS.out _).mono ?_
    rintro e w1 ⟨rfl, rfl⟩
    go_wp2_with fail
    refine (HVT.out _).mono ?_
    rintro e w1 ⟨rfl, rfl⟩
    go_wp2_with fail
    refine (HDX.out _).mono ?_
    rintro e w2 ⟨⟨u, rfl, hu⟩, hB2⟩
    have HU := Lib.hid hu
    have HB2 := Lib.hid hB2
    obtain ⟨_, _, rfl, _⟩ := hu
    clear hB2
    go_wp2_with fail
    refine (HDY.out _).mono ?_
    rintro e w3 ⟨⟨v, rfl, hv⟩, hB3⟩
    have HU3 := Lib.hid (NumsAt.via hB3 HU.out)
    have HV3 := Lib.hid hv
    have HB3 := Lib.hid (belowVia hB3 HB2.out)
    obtain ⟨_, _, rfl, _⟩ := hv
    clear hB3
    go_wp2_with fail
    refine (HD.out _ _ _ HU3.out HV3.out).mono ?_
    rintro e w4 ⟨⟨q, r, rfl, hq, hr⟩, hB4⟩
    have HQ4 := Lib.hid hq
    have HR4 := Lib.hid hr
    have HV4 := Lib.hid (NumsAt.via hB4 HV3.out)
    have HB4 := Lib.hid (belowVia hB4 HB3.out)
    obtain ⟨_, _, rfl, _⟩ := hq
    obtain ⟨_, _, rfl, _⟩ := hr
    clear hB4
    go_wp2_with fail
    refine (HP.out _ _ _ (NumsAt.via (alloc_below _ _) HQ4.out) (by rw [ten_one]; exact lit_nums _ 1)).mono ?_
    rintro e w5 ⟨⟨q2, rfl, hq2⟩, hB5⟩
    have hB5 := belowVia hB5 (alloc_below _ _)
    have HQ5 := Lib.hid hq2
    have HR5 := Lib.hid (NumsAt.via hB5 HR4.out)
    have HV5 := Lib.hid (NumsAt.via hB5 HV4.out)
    have HB5 := Lib.hid (belowVia hB5 HB4.out)
    obtain ⟨_, _, rfl, _⟩ := hq2
    clear hB5
    go_wp2_with fail
    refine (HM.out _ _ _ HV5.out HR5.out).mono ?_
    rintro e w6 ⟨⟨r2, rfl, hr2, _⟩, hB6⟩
    have HQ6 := Lib.hid (NumsAt.via hB6 HQ5.out)
    have HR6 := Lib.hid hr2
    have HB6 := Lib.hid (belowVia hB6 HB5.out)
    obtain ⟨_, _, rfl, _⟩ := hr2
    clear hB6
    go_wp2_with fail
    refine (HC.out _ _ HQ6.out).mono ?_
    rintro e w7 ⟨rfl, hB7⟩
    have HR7 := Lib.hid (NumsAt.via hB7 HR6.out)
    have HB7 := Lib.hid (belowVia hB7 HB6.out)
    clear hB7
    go_wp2_with fail
    refine (HT.out _ _ HR7.out).mono ?_
    rintro e w8 ⟨rfl, hB8⟩
    have HB8 := Lib.hid (belowVia hB8 HB7.out)
    clear hB8
    go_wp2_with fail
    go_ret3
    exact ⟨rfl, HB8.out⟩
  · obtain ⟨e1, e2⟩ := quo_lo h0 hc
    have hC := fun v W h => rchecked_any (decide (x < 0) != decide (y < 0)) (x.natAbs / y.natAbs) (by omega) v W h
    rw [e1, okS_fits hqf, okE_fits hqf] at hC
    have HC := Lib.hid hC
    have hT := fun v W h => rtext_any false (digsL 10 (x.natAbs % y.natAbs)) (by omega) (digsL_dig (by decide) _) (digsL_norm (by decide) _) v W h
    rw [leV_digsL (by decide), show sgn false (x.natAbs % y.natAbs) = x % y by rw [← e2]; rfl] at hT
    have HT := Lib.hid hT
    have hor : x < 0 ∧ ((digsL 10 (x.natAbs % y.natAbs)).length : Int) = 0 ∨ ¬ x < 0 := by
      by_cases hxn : x < 0
      · exact .inl ⟨hxn, by have := dlen_zero (n := x.natAbs % y.natAbs); omega⟩
      · exact .inr hxn
    clear hlx hly hx hy hD hC hT e1 e2 h0 hqf hql hrl hc
    unfold GivesInt at *
    rcases hor with ⟨hxn, hlr⟩ | hxn
    · have hdx : decide (x < 0) = true := by simpa using hxn
      have hlz : decide ((0 : Int) < ((digsL 10 (x.natAbs % y.natAbs)).length : Nat)) = false := by rw [hlr]; rfl
      rw [hdx] at HDX HC
      clear hxn hdx
      generalize decide (y < 0) = by' at *
      rw [show (true != by') = !by' by cases by' <;> rfl] at HC
      go_enter Tryz.func44, Tryz.ntmps44
      go_wp2_with fail
      refine (HVS.out _).mono ?_
      rintro e w1 ⟨rfl, rfl⟩
      go_wp2_with fail
      refine (HVT.out _).mono ?_
      rintro e w1 ⟨rfl, rfl⟩
      go_wp2_with fail
      refine (HDX.out _).mono ?_
      rintro e w2 ⟨⟨u, rfl, hu⟩, hB2⟩
      have HU := Lib.hid hu
      have HB2 := Lib.hid hB2
      obtain ⟨_, _, rfl, _⟩ := hu
      clear hB2
      go_wp2_with fail
      refine (HDY.out _).mono ?_
      rintro e w3 ⟨⟨v, rfl, hv⟩, hB3⟩
      have HU3 := Lib.hid (NumsAt.via hB3 HU.out)
      have HV3 := Lib.hid hv
      have HB3 := Lib.hid (belowVia hB3 HB2.out)
      obtain ⟨_, _, rfl, _⟩ := hv
      clear hB3
      go_wp2_with fail
      refine (HD.out _ _ _ HU3.out HV3.out).mono ?_
      rintro e w4 ⟨⟨q, r, rfl, hq, hr⟩, hB4⟩
      have HQ4 := Lib.hid hq
      have HR4 := Lib.hid hr
      have HB4 := Lib.hid (belowVia hB4 HB3.out)
      obtain ⟨_, _, rfl, _⟩ := hq
      obtain ⟨_, _, rfl, _⟩ := hr
      clear hB4
      go_wp2_with fail
      refine (HC.out _ _ HQ4.out).mono ?_
      rintro e w7 ⟨rfl, hB7⟩
      have HR7 := Lib.hid (NumsAt.via hB7 HR4.out)
      have HB7 := Lib.hid (belowVia hB7 HB4.out)
      clear hB7
      go_wp2_with fail
      refine (HT.out _ _ HR7.out).mono ?_
      rintro e w8 ⟨rfl, hB8⟩
      have HB8 := Lib.hid (belowVia hB8 HB7.out)
      clear hB8
      go_wp2_with fail
      go_ret3
      exact ⟨rfl, HB8.out⟩
    · have hdx : decide (x < 0) = false := by simpa using hxn
      rw [hdx] at HDX HC
      clear hxn hdx
      generalize decide (y < 0) = by' at *
      rw [show (false != by') = by' by cases by' <;> rfl] at HC
      go_enter Tryz.func44, Tryz.ntmps44
      go_wp2_with fail
      refine (HVS.out _).mono ?_
      rintro e w1 ⟨rfl, rfl⟩
      go_wp2_with fail
      refine (HVT.out _).mono ?_
      rintro e w1 ⟨rfl, rfl⟩
      go_wp2_with fail
      refine (HDX.out _).mono ?_
      rintro e w2 ⟨⟨u, rfl, hu⟩, hB2⟩
      have HU := Lib.hid hu
      have HB2 := Lib.hid hB2
      obtain ⟨_, _, rfl, _⟩ := hu
      clear hB2
      go_wp2_with fail
      refine (HDY.out _).mono ?_
      rintro e w3 ⟨⟨v, rfl, hv⟩, hB3⟩
      have HU3 := Lib.hid (NumsAt.via hB3 HU.out)
      have HV3 := Lib.hid hv
      have HB3 := Lib.hid (belowVia hB3 HB2.out)
      obtain ⟨_, _, rfl, _⟩ := hv
      clear hB3
      go_wp2_with fail
      refine (HD.out _ _ _ HU3.out HV3.out).mono ?_
      rintro e w4 ⟨⟨q, r, rfl, hq, hr⟩, hB4⟩
      have HQ4 := Lib.hid hq
      have HR4 := Lib.hid hr
      have HB4 := Lib.hid (belowVia hB4 HB3.out)
      obtain ⟨_, _, rfl, _⟩ := hq
      obtain ⟨_, _, rfl, _⟩ := hr
      clear hB4
      go_wp2_with fail
      refine (HC.out _ _ HQ4.out).mono ?_
      rintro e w7 ⟨rfl, hB7⟩
      have HR7 := Lib.hid (NumsAt.via hB7 HR4.out)
      have HB7 := Lib.hid (belowVia hB7 HB4.out)
      clear hB7
      go_wp2_with fail
      refine (HT.out _ _ HR7.out).mono ?_
      rintro e w8 ⟨rfl, hB8⟩
      have HB8 := Lib.hid (belowVia hB8 HB7.out)
      clear hB8
      go_wp2_with fail
      go_ret3
      exact ⟨rfl, HB8.out⟩
/-- The list of numbers of a slice that begins at a block's head. -/
def listN (w : World) : Value → List Nat
  | .slice (some a) n _ => (List.range n).map fun j => cellN w a.block j
  | _ => []
theorem listN_of {w : World} {v : Value} {l : List Nat} (h : NumsAt w v l) : listN w v = l := by
  obtain ⟨a, c, rfl, h2, _, h4⟩ := h
  rcases h4 with ⟨rfl, h5⟩ | ⟨g, rfl, h6⟩
  · have : l = [] := List.length_eq_zero_iff.1 (by omega)
    subst this; rfl
  · refine List.ext_getElem (by simp [listN]) fun j h1 h3 => ?_
    simp only [listN, List.getElem_map, List.getElem_range]
    rw [cellN_of (h6 j h3)]
    simp [List.getD_eq_getElem?_getD, h3]
set_option maxRecDepth 100000 in
set_option maxHeartbeats 4000000 in
theorem rgcd_ok (x y : Int) (hx : Fits x) (hy : Fits y) (w : World) :
    Calls Tryz.prog 54 #[.string (intB x), .string (intB y)] w (GivesInt (intB (Int.gcd x y : Nat)) 0 w) := by
  have HVS := Lib.hid (rvalid_int x hx)
  have HVT := Lib.hid (rvalid_int y hy)
  have HDX := Lib.hid (rdigits_any x hx)
  have HDY := Lib.hid (rdigits_any y hy)
  have HLX := Lib.hid (fits_len hx)
  have HLY := Lib.hid (fits_len hy)
  have hgf := gcd_fits hx hy
  have hC := fun v W h => rchecked_any false (Int.gcd x y) (by have h1 := fits_len hgf; rw [Int.natAbs_natCast] at h1; omega) v W h
  rw [show sgn false (Int.gcd x y) = (Int.gcd x y : Nat) from rfl, okS_fits hgf, okE_fits hgf] at hC
  have HC := Lib.hid hC
  obtain ⟨G, hG⟩ : ∃ G, G = Int.gcd x y := ⟨_, rfl⟩
  have HG : Hid (Nat.gcd x.natAbs y.natAbs = G) := hG.symm
  rw [← hG] at HC ⊢
  clear hgf hC hG hx hy
  generalize decide (x < 0) = bx at *
  generalize decide (y < 0) = by' at *
  unfold GivesInt at *
  go_enter Tryz.func54, Tryz.ntmps54
  go_wp2_with fail
  refine (HVS.out _).mono ?_
  rintro e w1 ⟨rfl, rfl⟩
  go_wp2_with fail
  refine (HVT.out _).mono ?_
  rintro e w1 ⟨rfl, rfl⟩
  go_wp2_with fail
  refine (HDX.out _).mono ?_
  rintro e w2 ⟨⟨u, rfl, hu⟩, hB2⟩
  have HU := Lib.hid hu
  have HB2 := Lib.hid hB2
  obtain ⟨_, _, rfl, _⟩ := hu
  clear hB2
  go_wp2_with fail
  refine (HDY.out _).mono ?_
  rintro e w3 ⟨⟨v, rfl, hv⟩, hB3⟩
  have HU3 := Lib.hid (NumsAt.via hB3 HU.out)
  have HV3 := Lib.hid hv
  have HB3 := Lib.hid (belowVia hB3 HB2.out)
  obtain ⟨_, _, rfl, _⟩ := hv
  clear hB3
  go_wp2_with fail
  go_loopw [7, 9] (fun u v wr => ∃ a b : Nat, NumsAt wr u (digsL 10 a) ∧ NumsAt wr v (digsL 10 b) ∧ Nat.gcd a b = G ∧ (digsL 10 a).length ≤ 200 ∧ (digsL 10 b).length ≤ 200 ∧ Below w1.heap.size w1 wr) (fun _ v wr => leV 10 (listN wr v))
  case atStart => exact ⟨_, _, HU3.out, HV3.out, HG.out, HLX.out, HLY.out, HB3.out⟩
  case round =>
    clear HU3 HV3 HG HB3 HLX HLY HB2 HU
    obtain ⟨a, b, hu, hv, hg, hla, hlb, hB⟩ := hrel
    have HU := Lib.hid hu
    have HV := Lib.hid hv
    have HG := Lib.hid hg
    have HB := Lib.hid hB
    have HLB := Lib.hid hlb
    have HLV := Lib.hid (listN_of hv)
    obtain ⟨ua, uc, rfl, _⟩ := nums_form hu
    obtain ⟨va, vc, rfl, _⟩ := nums_form hv
    rcases Nat.eq_zero_or_pos b with hb0 | hb0
    · have hz : ((digsL 10 b).length : Int) = 0 := by have := dlen_zero (n := b); omega
      have hlz : decide ((0 : Int) < ((digsL 10 b).length : Nat)) = false := by rw [hz]; rfl
      have hga : a = G := by rw [hb0, Nat.gcd_zero_right] at hg; exact hg
      subst hga
      clear hu hv hg hB hla hlb hb0 HLV
      go_wp2_with fail
      refine (HC.out _ _ HU.out).mono ?_
      rintro e w8 ⟨rfl, hB8⟩
      have HB8 := Lib.hid (belowVia hB8 HB.out)
      clear hB8
      go_wp2_with fail
      go_ret2
      exact ⟨rfl, HB8.out⟩
    · have hlz : (0 : Int) < ((digsL 10 b).length : Nat) := by have := dlen_zero (n := b); omega
      have hD := fun u v W h1 h2 => rdivided_any (digsL 10 a) b (digsL_dig (by decide) _) hb0 (by omega) (by omega) u v W h1 h2
      rw [leV_digsL (by decide)] at hD
      have HD := Lib.hid hD
      have HG2 : Hid (Nat.gcd b (a % b) = G) := by show _ = _; rw [← hg, Nat.gcd_comm b, ← Nat.gcd_rec, Nat.gcd_comm]
      have HB0 := Lib.hid hb0
      have HL2 : Hid ((digsL 10 (a % b)).length ≤ 200) := dlen_mono (Nat.le_of_lt (Nat.mod_lt _ hb0)) hlb
      clear hu hv hg hB hla hlb hb0 hD
      go_wp2_with fail
      refine (HD.out _ _ _ HU.out HV.out).mono ?_
      rintro e w4 ⟨⟨q, r, rfl, hq, hr⟩, hB4⟩
      have HR4 := Lib.hid hr
      have HV4 := Lib.hid (NumsAt.via hB4 HV.out)
      have HB4 := Lib.hid (belowVia hB4 HB.out)
      have HLR := Lib.hid (listN_of hr)
      obtain ⟨_, _, rfl, _⟩ := hq
      obtain ⟨_, _, rfl, _⟩ := hr
      clear hB4
      go_wp2_with fail
      go_roundw
      case rel => exact ⟨b, a % b, HV4.out, HR4.out, HG2.out, HLB.out, HL2.out, HB4.out⟩
      case measure => rw [HLV.out, HLR.out, leV_digsL (by decide), leV_digsL (by decide)]; exact Nat.mod_lt _ HB0.out
end Go.Proofs.YtelckldddflmmaaGreatDoor
/- IntRefInts: The reference's FromInt and ToInt. -/
namespace Go.Proofs.YtelckldddflmmaaGreatDoor
open Go.RowKit Putlog

theorem int_head {z : Int} : 0 < (intB z).size ∧ ∀ h : 0 < (intB z).size, ((((intB z)[0]).toNat : Int) == 45) = decide (z < 0) := by
  have hl : (intB z).data.toList = intT z := by
    show (intT z).toArray.toList = _
    rw [List.toList_toArray]
  have h1 := (ba_list (intB z)).1
  rw [hl] at h1
  have hne : intT z ≠ [] := by
    unfold intT; split
    · simp
    · exact natT_ne _
  have h0 : 0 < (intB z).size := by have := List.length_pos_iff.2 hne; omega
  refine ⟨h0, fun h => ?_⟩
  have hh := ba_head h
  rw [hl] at hh
  by_cases hz : z < 0
  · unfold intT at hh
    rw [if_pos hz, List.head?_cons] at hh
    rw [← Option.some.inj hh]; simpa using hz
  · unfold intT at hh
    rw [if_neg hz] at hh
    have hd := natT_head_dig z.natAbs
    rw [hh] at hd
    rw [show decide (z < 0) = false by simpa using hz, beq_eq_false_iff_ne]
    intro h45
    exact hd (by rw [show (intB z)[0] = 45 from UInt8.toNat_inj.1 (by rw [show (45 : UInt8).toNat = 45 from rfl]; omega)])
/-- The digits of a number under way: those that are found, and the rest. -/
def FromT (N : Nat) (l : List Nat) (M : Nat) : Prop := DigB 10 l ∧ leV 10 l + 10 ^ l.length * M = N ∧ (l = [] ∨ 10 ^ (l.length - 1) ≤ N)
theorem FromT.start (N : Nat) : FromT N [] N := ⟨DigB.nil _, by simp [leV], .inl rfl⟩
theorem FromT.step {N : Nat} {l : List Nat} {M : Nat} (h : FromT N l M) (hM : 0 < M) : FromT N (l ++ [M % 10]) (M / 10) := by
  obtain ⟨h1, h2, h3⟩ := h
  refine ⟨h1.append (DigB.cons (Nat.mod_lt _ (by decide)) (DigB.nil _)), ?_, .inr ?_⟩
  · rw [leV_snoc, List.length_append, List.length_cons, List.length_nil, Nat.zero_add, Nat.pow_succ, Nat.mul_assoc, Nat.add_assoc, ← Nat.mul_add, Nat.mod_add_div]
    exact h2
  · have e : (l ++ [M % 10]).length - 1 = l.length := by simp
    rw [e]
    have h4 : 10 ^ l.length * 1 ≤ 10 ^ l.length * M := Nat.mul_le_mul_left _ hM
    omega
theorem FromT.done {N : Nat} {l : List Nat} (h : FromT N l 0) : l = digsL 10 N := by
  obtain ⟨h1, h2, h3⟩ := h
  have hv : leV 10 l = N := by omega
  refine digs_of h1 (norm_of_ge h1 ?_) hv
  rcases h3 with h3 | h3
  · exact .inl h3
  · exact .inr (by omega)
theorem FromT.small {N : Nat} {l : List Nat} {M : Nat} (h : FromT N l M) (hN : N < 10 ^ 20) : l.length ≤ 20 := by
  obtain ⟨_, _, h3⟩ := h
  rcases h3 with rfl | h3
  · decide
  · refine Nat.not_lt.1 fun hl => ?_
    have : 10 ^ 20 ≤ 10 ^ (l.length - 1) := Nat.pow_le_pow_right (by decide) (by omega)
    omega

set_option maxRecDepth 100000 in
set_option maxHeartbeats 4000000 in
theorem rfrom_pos (n : Int) (h0 : -9223372036854775808 ≤ n) (h1 : n ≤ 9223372036854775807) (hs : ¬ n < 0) (w : World) :
    Calls Tryz.prog 57 #[.int .i64 n] w fun e w' => e = .returned (.string (intB n)) ∧ Below w.heap.size w w' := by
  obtain ⟨i0, hi0, hz0, hz1, hz2⟩ := info_parts info_int
  have HI0 := Lib.hid hi0
  have HZ0 := Lib.hid hz0
  have HZ1 := Lib.hid hz1
  have HZ2 := Lib.hid hz2
  obtain ⟨N, hN⟩ : ∃ N, N = n.natAbs := ⟨_, rfl⟩
  have HNB : Hid (N < 10 ^ 20) := by show _ < _; omega
  have hn : n = (N : Int) := by omega
  have hT := fun v W h => rtext_any false (digsL 10 N) (by have : (digsL 10 N).length ≤ 20 := dlen_lt HNB.out; omega) (digsL_dig (by decide) _) (digsL_norm (by decide) _) v W h
  rw [leV_digsL (by decide), show sgn false N = n by rw [hn]; rfl] at hT
  have HT := Lib.hid hT
  have hNb : (N : Int) ≤ 9223372036854775808 := by omega
  have hNb2 : (N : Int) ≤ 9223372036854775807 := by omega
  generalize intB n = s at *
  clear hi0 hz0 hz1 hz2 hT hN
  subst hn
  go_enter Tryz.func57, Tryz.ntmps57
  go_wp2_with fail
  go_loopw [3, 4] (fun v m wr => ∃ (M : Nat) (l : List Nat), m = .int .i64 ((M : Nat) : Int) ∧ M ≤ N ∧ FromT N l M ∧ wr.ownsRow w.heap.size 3 1 v l.length (i64l l) ∧ Below w.heap.size w wr) (fun _ m _ => (intOf m).natAbs)
  case atStart => exact ⟨N, [], rfl, Nat.le_refl _, FromT.start N, World.ownsRow_nil _ _ _ _, Below.refl _ _⟩
  case round =>
    obtain ⟨M, y, rfl, hM, hF, hown, hB⟩ := hrel
    have HF := Lib.hid hF
    have HO := Lib.hid hown
    have HB := Lib.hid hB
    have hyl := hF.small HNB.out
    have HK : Hid (y.length ≤ 100000) := by show _ ≤ _; omega
    have hMb : (M : Int) ≤ 9223372036854775808 := by omega
    have hMb2 : (M : Int) ≤ 9223372036854775807 := by omega
    clear hF hown hB hyl
    rcases Nat.eq_zero_or_pos M with rfl | hM0
    · have hE := HF.out.done
      have hnums := NumsAt.of_owns HO.out
      rw [hE] at hnums
      have HNU := Lib.hid hnums
      obtain ⟨_, _, rfl, _⟩ := nums_form hnums
      clear hE hnums HO
      go_wp2_with fail
      refine (HT.out _ _ HNU.out).mono ?_
      rintro e w5 ⟨rfl, hB5⟩
      have HB5 := Lib.hid (belowVia hB5 HB.out)
      clear hB5
      go_wp2_with fail
      go_ret
      exact ⟨rfl, HB5.out⟩
    · have HST := Lib.hid (HF.out.step hM0)
      have hne : (((M : Nat) : Int) != 0) = true := by rw [bne_iff_ne]; omega
      have hmm : ((M : Nat) : Int).tmod 10 = ((M % 10 : Nat) : Int) := by rw [Int.tmod_eq_emod_of_nonneg (by omega)]; omega
      have hmq : ((M : Nat) : Int).tdiv 10 = ((M / 10 : Nat) : Int) := by rw [Int.tdiv_eq_ediv_of_nonneg (by omega)]; omega
      have hd9 : ((M % 10 : Nat) : Int) ≤ 9 := by omega
      have hq9 : ((M / 10 : Nat) : Int) ≤ 922337203685477580 := by omega
      have HQM : Hid (M / 10 < M ∧ M / 10 ≤ N) := by show _ ∧ _; omega
      generalize M % 10 = d at *
      generalize M / 10 = q at *
      go_wp2_with (at_builtin; refine wpList_append_own _ rfl _ _ 40 rfl w.heap.size 3 i0 (.int .i64 0) 1 8 Tryz.underlying40 HI0.out HZ0.out HZ1.out HZ2.out rfl (by decide) u3 y.length (i64l y) (by rfl) (HO.out.alloc _) ⟨wr.heap.size, 0, none⟩ 1 1 [.int .i64 (d : Nat)] (by rfl) rfl (news_val _ _ _) (one_int _ _) (app_b1 HK.out) (app_b2 HK.out (by decide)) (app_b3 HB.out) ?_; intro v2 w9 hown9 hgrow9 _)
      have HFF := Lib.hid (app_i64 (b := d) HO.out HB.out hown9 hgrow9)
      clear hown9 hgrow9
      go_wp2_with fail
      go_roundw
      case rel => exact ⟨q, _, by go_num, HQM.out.2, HST.out, HFF.out.1, HFF.out.2⟩
      case measure => have := HQM.out; simp [intOf]; omega
set_option maxRecDepth 100000 in
set_option maxHeartbeats 4000000 in
theorem rfrom_neg (n : Int) (h0 : -9223372036854775808 ≤ n) (h1 : n ≤ 9223372036854775807) (hs : n < 0) (w : World) :
    Calls Tryz.prog 57 #[.int .i64 n] w fun e w' => e = .returned (.string (intB n)) ∧ Below w.heap.size w w' := by
  obtain ⟨i0, hi0, hz0, hz1, hz2⟩ := info_parts info_int
  have HI0 := Lib.hid hi0
  have HZ0 := Lib.hid hz0
  have HZ1 := Lib.hid hz1
  have HZ2 := Lib.hid hz2
  obtain ⟨N, hN⟩ : ∃ N, N = n.natAbs := ⟨_, rfl⟩
  have HNB : Hid (N < 10 ^ 20) := by show _ < _; omega
  have hn : n = -(N : Int) := by omega
  have hT := fun v W h => rtext_any true (digsL 10 N) (by have : (digsL 10 N).length ≤ 20 := dlen_lt HNB.out; omega) (digsL_dig (by decide) _) (digsL_norm (by decide) _) v W h
  rw [leV_digsL (by decide), show sgn true N = n by rw [hn]; rfl] at hT
  have HT := Lib.hid hT
  have hNb : (N : Int) ≤ 9223372036854775808 := by omega
  have hNp : 0 < N := by omega
  generalize intB n = s at *
  clear hi0 hz0 hz1 hz2 hT hN
  subst hn
  go_enter Tryz.func57, Tryz.ntmps57
  go_wp2_with fail
  go_loopw [3, 4] (fun v m wr => ∃ (M : Nat) (l : List Nat), m = .int .i64 (-(M : Int)) ∧ M ≤ N ∧ FromT N l M ∧ wr.ownsRow w.heap.size 3 1 v l.length (i64l l) ∧ Below w.heap.size w wr) (fun _ m _ => (intOf m).natAbs)
  case atStart => exact ⟨N, [], rfl, Nat.le_refl _, FromT.start N, World.ownsRow_nil _ _ _ _, Below.refl _ _⟩
  case round =>
    obtain ⟨M, y, rfl, hM, hF, hown, hB⟩ := hrel
    have HF := Lib.hid hF
    have HO := Lib.hid hown
    have HB := Lib.hid hB
    have hyl := hF.small HNB.out
    have HK : Hid (y.length ≤ 100000) := by show _ ≤ _; omega
    have hMb : (M : Int) ≤ 9223372036854775808 := by omega
    clear hF hown hB hyl
    rcases Nat.eq_zero_or_pos M with rfl | hM0
    · have hE := HF.out.done
      have hnums := NumsAt.of_owns HO.out
      rw [hE] at hnums
      have HNU := Lib.hid hnums
      obtain ⟨_, _, rfl, _⟩ := nums_form hnums
      have hnl : -(N : Int) < 0 := by omega
      clear hE hnums HO
      go_wp2_with fail
      refine (HT.out _ _ HNU.out).mono ?_
      rintro e w5 ⟨rfl, hB5⟩
      have HB5 := Lib.hid (belowVia hB5 HB.out)
      clear hB5
      go_wp2_with fail
      go_ret
      exact ⟨rfl, HB5.out⟩
    · have HST := Lib.hid (HF.out.step hM0)
      have hne : ((-(M : Int)) != 0) = true := by rw [bne_iff_ne]; omega
      have hmm : (-(M : Int)).tmod 10 = -((M % 10 : Nat) : Int) := by rw [Int.neg_tmod, Int.tmod_eq_emod_of_nonneg (by omega)]; omega
      have hmq : (-(M : Int)).tdiv 10 = -((M / 10 : Nat) : Int) := by rw [Int.neg_tdiv, Int.tdiv_eq_ediv_of_nonneg (by omega)]; omega
      have hd9 : ((M % 10 : Nat) : Int) ≤ 9 := by omega
      have hq9 : ((M / 10 : Nat) : Int) ≤ 922337203685477580 := by omega
      have HQM : Hid (M / 10 < M ∧ M / 10 ≤ N) := by show _ ∧ _; omega
      generalize M % 10 = d at *
      generalize M / 10 = q at *
      rcases Nat.eq_zero_or_pos d with rfl | hd0
      · skip
        go_wp2_with (at_builtin; refine wpList_append_own _ rfl _ _ 40 rfl w.heap.size 3 i0 (.int .i64 0) 1 8 Tryz.underlying40 HI0.out HZ0.out HZ1.out HZ2.out rfl (by decide) u3 y.length (i64l y) (by rfl) (HO.out.alloc _) ⟨wr.heap.size, 0, none⟩ 1 1 [.int .i64 ((0 : Nat) : Nat)] (by rfl) rfl (news_val _ _ _) (one_int _ _) (app_b1 HK.out) (app_b2 HK.out (by decide)) (app_b3 HB.out) ?_; intro v2 w9 hown9 hgrow9 _)
        have HFF := Lib.hid (app_i64 (b := 0) HO.out HB.out hown9 hgrow9)
        clear hown9 hgrow9
        go_wp2_with fail
        go_roundw
        case rel => exact ⟨q, _, by go_num, HQM.out.2, HST.out, HFF.out.1, HFF.out.2⟩
        case measure => have := HQM.out; simp [intOf]; omega
      · have hdn : -(d : Int) < 0 := by omega
        go_wp2_with (at_builtin; refine wpList_append_own _ rfl _ _ 40 rfl w.heap.size 3 i0 (.int .i64 0) 1 8 Tryz.underlying40 HI0.out HZ0.out HZ1.out HZ2.out rfl (by decide) u3 y.length (i64l y) (by rfl) (HO.out.alloc _) ⟨wr.heap.size, 0, none⟩ 1 1 [.int .i64 (d : Nat)] (by rfl) rfl (news_val _ _ _) (one_int _ _) (app_b1 HK.out) (app_b2 HK.out (by decide)) (app_b3 HB.out) ?_; intro v2 w9 hown9 hgrow9 _)
        have HFF := Lib.hid (app_i64 (b := d) HO.out HB.out hown9 hgrow9)
        clear hown9 hgrow9
        go_wp2_with fail
        go_roundw
        case rel => exact ⟨q, _, by go_num, HQM.out.2, HST.out, HFF.out.1, HFF.out.2⟩
        case measure => have := HQM.out; simp [intOf]; omega
theorem rfrom_any (n : Int) (h0 : -9223372036854775808 ≤ n) (h1 : n ≤ 9223372036854775807) (w : World) :
    Calls Tryz.prog 57 #[.int .i64 n] w fun e w' => e = .returned (.string (intB n)) ∧ Below w.heap.size w w' := by
  by_cases h : n < 0
  · exact rfrom_neg n h0 h1 h w
  · exact rfrom_pos n h0 h1 h w
end Go.Proofs.YtelckldddflmmaaGreatDoor
/- RatRef1: The reference's integers, whatever the two texts; its Valid, Make and Of. -/
namespace Go.Proofs.YtelckldddflmmaaGreatDoor
open Go.RowKit Putlog

theorem read_cases (s t : ByteArray) : (∃ x y, s = intB x ∧ t = intB y ∧ Fits x ∧ Fits y ∧ readI s = some x ∧ readI t = some y) ∨ ((validT s.data.toList && validT t.data.toList) = false ∧ (readI s = none ∨ readI t = none)) := by
  rcases readI_cases s with ⟨x, e1, f1, r1⟩ | ⟨h1, r1⟩
  · rcases readI_cases t with ⟨y, e2, f2, r2⟩ | ⟨h2, r2⟩
    · exact .inl ⟨x, y, e1, e2, f1, f2, r1, r2⟩
    · exact .inr ⟨by rw [h2, Bool.and_false], .inr r2⟩
  · exact .inr ⟨by rw [h1, Bool.false_and], .inl r1⟩
theorem radd_str (x y : ByteArray) (w : World) (hx : Sized x) (hy : Sized y) : Calls Tryz.prog 39 #[.string x, .string y] w (GivesInt (op2 addF x y).1 (op2 addF x y).2 w) := by
  rcases read_cases x y with ⟨a, b, rfl, rfl, ha, hb, _⟩ | ⟨h1, h2⟩
  · rw [op2_ints ha hb]; exact radd_ok a b ha hb w
  · rw [op2_no h2]; exact radd_no _ _ hx hy h1 w
theorem rsub_str (x y : ByteArray) (w : World) (hx : Sized x) (hy : Sized y) : Calls Tryz.prog 40 #[.string x, .string y] w (GivesInt (op2 subF x y).1 (op2 subF x y).2 w) := by
  rcases read_cases x y with ⟨a, b, rfl, rfl, ha, hb, _⟩ | ⟨h1, h2⟩
  · rw [op2_ints ha hb]; exact rsub_ok a b ha hb w
  · rw [op2_no h2]; exact rsub_no _ _ hx hy h1 w
theorem rmul_str (x y : ByteArray) (w : World) (hx : Sized x) (hy : Sized y) : Calls Tryz.prog 41 #[.string x, .string y] w (GivesInt (op2 mulF x y).1 (op2 mulF x y).2 w) := by
  rcases read_cases x y with ⟨a, b, rfl, rfl, ha, hb, _⟩ | ⟨h1, h2⟩
  · rw [op2_ints ha hb]; exact rmul_ok a b ha hb w
  · rw [op2_no h2]; exact rmul_no _ _ hx hy h1 w
theorem rgcd_str (x y : ByteArray) (w : World) (hx : Sized x) (hy : Sized y) : Calls Tryz.prog 54 #[.string x, .string y] w (GivesInt (op2 gcdF x y).1 (op2 gcdF x y).2 w) := by
  rcases read_cases x y with ⟨a, b, rfl, rfl, ha, hb, _⟩ | ⟨h1, h2⟩
  · rw [op2_ints ha hb]; exact rgcd_ok a b ha hb w
  · rw [op2_no h2]; exact rgcd_no _ _ hx hy h1 w
theorem rcmp_str (x y : ByteArray) (w : World) (hx : Sized x) (hy : Sized y) : Calls Tryz.prog 45 #[.string x, .string y] w fun e w' => e = .returned (.int .i64 (cmpS x y)) ∧ Below w.heap.size w w' := by
  rcases read_cases x y with ⟨a, b, rfl, rfl, ha, hb, _⟩ | ⟨h1, h2⟩
  · rw [cmpS_ints ha hb]; exact rcompare_ok a b ha hb w
  · rw [cmpS_no h2]; exact rcompare_no _ _ hx hy h1 w
theorem rdiv_str (x y : ByteArray) (w : World) (hx : Sized x) (hy : Sized y) :
    Calls Tryz.prog 44 #[.string x, .string y] w fun e w' => e = .returned (.tuple #[.string (divS x y).1, .string (divS x y).2.1, .int .i64 (divS x y).2.2]) ∧ Below w.heap.size w w' := by
  rcases read_cases x y with ⟨a, b, rfl, rfl, ha, hb, _⟩ | ⟨h1, h2⟩
  · by_cases h0 : b = 0
    · subst h0
      have : divS (intB a) (intB 0) = (⟨#[]⟩, ⟨#[]⟩, 30) := by unfold divS; rw [readI_int ha, readI_int hb]; rfl
      rw [this]; exact rdiv_zero a ha w
    · rw [divS_ints ha hb h0]; exact rdiv_ok a b ha hb h0 w
  · rw [divS_no h2]; exact rdiv_no _ _ hx hy h1 w
theorem isSome_valid (s : ByteArray) : validT s.data.toList = (readI s).isSome := by
  rcases readI_cases s with ⟨x, _, _, r⟩ | ⟨h, r⟩
  · rw [r]
    unfold readI at r
    split at r
    · rename_i h; exact h
    · cases r
  · rw [r, h]; rfl
theorem rvalid_str (s : ByteArray) (hs : Sized s) (w : World) : Calls Tryz.prog 53 #[.string s] w fun e w' => e = .returned (.bool (readI s).isSome) ∧ w' = w := by
  have h := rvalid_any s hs w
  rwa [isSome_valid] at h
set_option maxRecDepth 100000 in
set_option maxHeartbeats 4000000 in
theorem rvalid_q (n d : ByteArray) (hn : Sized n) (hd : Sized d) (w : World) :
    Calls Tryz.prog 25 #[.agg #[.string n, .string d]] w fun e w' => e = .returned (.bool (readQ n d).isSome) ∧ Below w.heap.size w w' := by
  have HVN := Lib.hid (fun W => rvalid_str n hn W)
  have HVD := Lib.hid (fun W => rvalid_str d hd W)
  have HC := Lib.hid (fun W => rcmp_str d ⟨#[48]⟩ W hd zero_sized)
  have HG := Lib.hid (fun W => rgcd_str n d W hn hd)
  have HQ := Lib.hid (valid_eq n d)
  have HR : Hid ((readI n).isSome = false ∨ (readI d).isSome = false → readQ n d = none) := fun h => by
    rcases h with h | h
    · exact readQ_no1 (by cases e : readI n with | none => rfl | some z => rw [e] at h; cases h)
    · exact readQ_no2 (by cases e : readI d with | none => rfl | some z => rw [e] at h; cases h)
  have HE : Hid ((readI n).isSome = true → (readI d).isSome = true → (op2 gcdF n d).2 = 0) := fun h1 h2 => by
    unfold op2
    cases e : readI n with
    | none => rw [e] at h1; cases h1
    | some a =>
      cases e2 : readI d with
      | none => rw [e2] at h2; cases h2
      | some b => rfl
  have he := str_eq (op2 gcdF n d).1 ⟨#[49]⟩
  rw [show (⟨#[49]⟩ : ByteArray).toList = [49] by decide +kernel] at he
  generalize (op2 gcdF n d).1 = c at *
  generalize (op2 gcdF n d).2 = k at *
  generalize cmpS d ⟨#[48]⟩ = m at *
  obtain ⟨k1, k2, kb⟩ := cell_row2 w (.string n) (.string d) 23
  have KB := Lib.hid kb
  generalize readQ n d = q at *
  generalize (readI n).isSome = vn at *
  generalize (readI d).isSome = vd at *
  clear hn hd kb
  cases vn with
  | false =>
    obtain rfl := HR.out (.inl rfl)
    clear HR HE HQ
    go_enter Tryz.func25, Tryz.ntmps25
    go_wp2_with fail
    refine (HVN.out _).mono ?_
    rintro e w1 ⟨rfl, rfl⟩
    go_wp2_with fail
    refine (HVD.out _).mono ?_
    rintro e w2 ⟨rfl, rfl⟩
    go_wp2_with fail
    go_ret
    exact ⟨rfl, KB.out⟩
  | true =>
    cases vd with
    | false =>
      obtain rfl := HR.out (.inr rfl)
      clear HR HE HQ
      go_enter Tryz.func25, Tryz.ntmps25
      go_wp2_with fail
      refine (HVN.out _).mono ?_
      rintro e w1 ⟨rfl, rfl⟩
      go_wp2_with fail
      refine (HVD.out _).mono ?_
      rintro e w2 ⟨rfl, rfl⟩
      go_wp2_with fail
      go_ret
      exact ⟨rfl, KB.out⟩
    | true =>
      obtain rfl := HE.out rfl rfl
      clear HR HE
      by_cases hm : m ≤ 0
      · have HF : Hid (q.isSome = false) := by show _ = _; rw [HQ.out, decide_eq_false (show ¬ 0 < m by omega), Bool.and_false]
        clear HQ
        go_enter Tryz.func25, Tryz.ntmps25
        go_wp2_with fail
        refine (HVN.out _).mono ?_
        rintro e w1 ⟨rfl, rfl⟩
        go_wp2_with fail
        refine (HVD.out _).mono ?_
        rintro e w2 ⟨rfl, rfl⟩
        go_wp2_with fail
        refine (HC.out _).mono ?_
        rintro e w3 ⟨rfl, hB⟩
        have HB3 := Lib.hid (belowVia hB KB.out)
        clear hB
        go_wp2_with fail
        go_ret
        exact ⟨by rw [HF.out]; rfl, HB3.out⟩
      · have hm2 : 0 < m := by omega
        have HF : Hid (q.isSome = decide (c = ⟨#[49]⟩)) := by show _ = _; rw [HQ.out, decide_eq_true hm2, Bool.and_true]
        clear HQ hm
        obtain ⟨b, hb⟩ : ∃ b, b = decide (c = ⟨#[49]⟩) := ⟨_, rfl⟩
        rw [← hb] at he HF
        clear hb
        go_enter Tryz.func25, Tryz.ntmps25
        go_wp2_with fail
        refine (HVN.out _).mono ?_
        rintro e w1 ⟨rfl, rfl⟩
        go_wp2_with fail
        refine (HVD.out _).mono ?_
        rintro e w2 ⟨rfl, rfl⟩
        go_wp2_with fail
        refine (HC.out _).mono ?_
        rintro e w3 ⟨rfl, hB⟩
        have k3 := keptBelow hB k1
        have k4 := keptBelow hB k2
        have HB3 := Lib.hid (belowVia hB KB.out)
        clear hB k1 k2
        go_wp2_with fail
        refine (HG.out _).mono ?_
        rintro e w4 ⟨rfl, hB⟩
        have HB4 := Lib.hid (belowVia hB HB3.out)
        clear hB
        go_wp2_with fail
        go_ret
        exact ⟨by rw [HF.out]; rfl, HB4.out⟩
end Go.Proofs.YtelckldddflmmaaGreatDoor
/- RatRef2: The reference's Make and Of. -/
namespace Go.Proofs.YtelckldddflmmaaGreatDoor
open Go.RowKit Putlog

/-- What the reference does with two integers, the second positive. -/
structure RedK (sn sd g x y r1 r2 : ByteArray) : Prop where
  gcd : ∀ W, Calls Tryz.prog 54 #[.string sn, .string sd] W (GivesInt g 0 W)
  d1 : ∀ W, Calls Tryz.prog 44 #[.string sn, .string g] W fun e w' => e = .returned (.tuple #[.string x, .string r1, .int .i64 0]) ∧ Below W.heap.size W w'
  d2 : ∀ W, Calls Tryz.prog 44 #[.string sd, .string g] W fun e w' => e = .returned (.tuple #[.string y, .string r2, .int .i64 0]) ∧ Below W.heap.size W w'
theorem redK (a b : Int) (ha : Fits a) (hb : Fits b) (h0 : 0 < b) : RedK (intB a) (intB b) (intB (Int.gcd a b : Nat)) (intB (Rat.divInt a b).num) (intB (Rat.divInt a b).den) (intB (a % (Int.gcd a b : Nat))) (intB (b % (Int.gcd a b : Nat))) := by
  have hg : (Int.gcd a b : Int) ≠ 0 := by have := gcd_posI (n := a) (d := b) (by omega); omega
  have fg := gcd_fits ha hb
  obtain ⟨p1, p2⟩ := red_parts (n := a) h0
  rw [p1, p2]
  exact ⟨fun W => rgcd_ok a b ha hb W, fun W => rdiv_ok a _ ha fg hg W, fun W => rdiv_ok b _ hb fg hg W⟩
set_option maxRecDepth 100000 in
set_option maxHeartbeats 4000000 in
theorem rmake_pos (sn sd g x y r1 r2 : ByteArray) (hv1 : ∀ W, Calls Tryz.prog 53 #[.string sn] W fun e w' => e = .returned (.bool true) ∧ w' = W) (hv2 : ∀ W, Calls Tryz.prog 53 #[.string sd] W fun e w' => e = .returned (.bool true) ∧ w' = W)
    (hz : (sd.toList == [48]) = false) (hc : ∀ W, Calls Tryz.prog 45 #[.string sd, .string ⟨#[48]⟩] W fun e w' => e = .returned (.int .i64 1) ∧ Below W.heap.size W w') (hk : RedK sn sd g x y r1 r2) (W : World) :
    Calls Tryz.prog 23 #[.string sn, .string sd] W fun e w' => e = .returned (.tuple #[.agg #[.string x, .string y], .int .i64 0]) ∧ Below W.heap.size W w' := by
  have HV1 := Lib.hid hv1
  have HV2 := Lib.hid hv2
  have HC := Lib.hid hc
  have HK := Lib.hid hk
  clear hv1 hv2 hc hk
  go_enter Tryz.func23, Tryz.ntmps23
  go_wp2_with fail
  have HRB := Lib.hid (ResBox.mk (p := W.heap.size) (heap_alloc_new W (.cells #[.string ⟨#[]⟩, .string ⟨#[]⟩] 23)))
  have HW := Lib.hid (alloc_below W (.cells #[.string ⟨#[]⟩, .string ⟨#[]⟩] 23))
  generalize W.alloc (.cells #[.string ⟨#[]⟩, .string ⟨#[]⟩] 23) = w0 at *
  refine (HV1.out w0).mono ?_
  rintro e w1 ⟨rfl, rfl⟩
  go_wp2_with fail
  refine (HV2.out w1).mono ?_
  rintro e w2 ⟨rfl, rfl⟩
  go_wp2_with fail
  refine (HC.out w2).mono ?_
  rintro e w3 ⟨rfl, hB⟩
  have HRB := Lib.hid (ResBox.mk (p := W.heap.size) (heap_below hB HRB.out.heap))
  have HW := Lib.hid (belowVia hB HW.out)
  clear hB
  go_wp2_with fail
  refine (HK.out.gcd w3).mono ?_
  rintro e w4 ⟨rfl, hB⟩
  have HRB := Lib.hid (ResBox.mk (p := W.heap.size) (heap_below hB HRB.out.heap))
  have HW := Lib.hid (belowVia hB HW.out)
  clear hB
  go_wp2_with fail
  refine (HK.out.d1 w4).mono ?_
  rintro e w5 ⟨rfl, hB⟩
  have HRB := Lib.hid (ResBox.mk (p := W.heap.size) (heap_below hB HRB.out.heap))
  have HW := Lib.hid (belowVia hB HW.out)
  clear hB
  go_wp2_with fail
  refine (HK.out.d2 w5).mono ?_
  rintro e w6 ⟨rfl, hB⟩
  have HRB := Lib.hid (ResBox.mk (p := W.heap.size) (heap_below hB HRB.out.heap))
  have HW := Lib.hid (belowVia hB HW.out)
  clear hB
  obtain ⟨q1, f1⟩ := cell2 HRB.out.heap
  obtain ⟨q2, f2⟩ := cell2b HRB.out.heap
  go_wp2_with fail
  refine bodyPost_ret (results_qe rfl _ _ W.heap.size _ _ rfl (HRB.out.set _ _)) rfl ?_
  exact ⟨rfl, below_set2 HW.out (Nat.le_refl _) _ _⟩
set_option maxRecDepth 100000 in
set_option maxHeartbeats 4000000 in
theorem rmake_neg (sn sd tn td g x y r1 r2 : ByteArray) (hv1 : ∀ W, Calls Tryz.prog 53 #[.string sn] W fun e w' => e = .returned (.bool true) ∧ w' = W) (hv2 : ∀ W, Calls Tryz.prog 53 #[.string sd] W fun e w' => e = .returned (.bool true) ∧ w' = W)
    (hz : (sd.toList == [48]) = false) (hc : ∀ W, Calls Tryz.prog 45 #[.string sd, .string ⟨#[48]⟩] W fun e w' => e = .returned (.int .i64 (-1)) ∧ Below W.heap.size W w')
    (hs1 : ∀ W, Calls Tryz.prog 40 #[.string ⟨#[48]⟩, .string sn] W (GivesInt tn 0 W)) (hs2 : ∀ W, Calls Tryz.prog 40 #[.string ⟨#[48]⟩, .string sd] W (GivesInt td 0 W)) (hk : RedK tn td g x y r1 r2) (W : World) :
    Calls Tryz.prog 23 #[.string sn, .string sd] W fun e w' => e = .returned (.tuple #[.agg #[.string x, .string y], .int .i64 0]) ∧ Below W.heap.size W w' := by
  have HV1 := Lib.hid hv1
  have HV2 := Lib.hid hv2
  have HC := Lib.hid hc
  have HS1 := Lib.hid hs1
  have HS2 := Lib.hid hs2
  have HK := Lib.hid hk
  clear hv1 hv2 hc hk hs1 hs2
  go_enter Tryz.func23, Tryz.ntmps23
  go_wp2_with fail
  have HRB := Lib.hid (ResBox.mk (p := W.heap.size) (heap_alloc_new W (.cells #[.string ⟨#[]⟩, .string ⟨#[]⟩] 23)))
  have HW := Lib.hid (alloc_below W (.cells #[.string ⟨#[]⟩, .string ⟨#[]⟩] 23))
  generalize W.alloc (.cells #[.string ⟨#[]⟩, .string ⟨#[]⟩] 23) = w0 at *
  refine (HV1.out w0).mono ?_
  rintro e w1 ⟨rfl, rfl⟩
  go_wp2_with fail
  refine (HV2.out w1).mono ?_
  rintro e w2 ⟨rfl, rfl⟩
  go_wp2_with fail
  refine (HC.out w2).mono ?_
  rintro e w3 ⟨rfl, hB⟩
  have HRB := Lib.hid (ResBox.mk (p := W.heap.size) (heap_below hB HRB.out.heap))
  have HW := Lib.hid (belowVia hB HW.out)
  clear hB
  go_wp2_with fail
  refine (HS1.out w3).mono ?_
  rintro e w4 ⟨rfl, hB⟩
  have HRB := Lib.hid (ResBox.mk (p := W.heap.size) (heap_below hB HRB.out.heap))
  have HW := Lib.hid (belowVia hB HW.out)
  clear hB
  go_wp2_with fail
  refine (HS2.out w4).mono ?_
  rintro e w5 ⟨rfl, hB⟩
  have HRB := Lib.hid (ResBox.mk (p := W.heap.size) (heap_below hB HRB.out.heap))
  have HW := Lib.hid (belowVia hB HW.out)
  clear hB
  go_wp2_with fail
  refine (HK.out.gcd w5).mono ?_
  rintro e w6 ⟨rfl, hB⟩
  have HRB := Lib.hid (ResBox.mk (p := W.heap.size) (heap_below hB HRB.out.heap))
  have HW := Lib.hid (belowVia hB HW.out)
  clear hB
  go_wp2_with fail
  refine (HK.out.d1 w6).mono ?_
  rintro e w7 ⟨rfl, hB⟩
  have HRB := Lib.hid (ResBox.mk (p := W.heap.size) (heap_below hB HRB.out.heap))
  have HW := Lib.hid (belowVia hB HW.out)
  clear hB
  go_wp2_with fail
  refine (HK.out.d2 w7).mono ?_
  rintro e w8 ⟨rfl, hB⟩
  have HRB := Lib.hid (ResBox.mk (p := W.heap.size) (heap_below hB HRB.out.heap))
  have HW := Lib.hid (belowVia hB HW.out)
  clear hB
  obtain ⟨q1, f1⟩ := cell2 HRB.out.heap
  obtain ⟨q2, f2⟩ := cell2b HRB.out.heap
  go_wp2_with fail
  refine bodyPost_ret (results_qe rfl _ _ W.heap.size _ _ rfl (HRB.out.set _ _)) rfl ?_
  exact ⟨rfl, below_set2 HW.out (Nat.le_refl _) _ _⟩
set_option maxRecDepth 100000 in
set_option maxHeartbeats 4000000 in
theorem rmake_no (sn sd : ByteArray) (v1 v2 z : Bool) (h : (v1 && v2 && !z) = false) (hv1 : ∀ W, Calls Tryz.prog 53 #[.string sn] W fun e w' => e = .returned (.bool v1) ∧ w' = W) (hv2 : ∀ W, Calls Tryz.prog 53 #[.string sd] W fun e w' => e = .returned (.bool v2) ∧ w' = W)
    (hz : (sd.toList == [48]) = z) (W : World) :
    Calls Tryz.prog 23 #[.string sn, .string sd] W (GivesQ none W) := by
  have HV1 := Lib.hid hv1
  have HV2 := Lib.hid hv2
  clear hv1 hv2
  cases v1 with
  | false =>
    clear h hz
    go_enter Tryz.func23, Tryz.ntmps23
    go_wp2_with fail
    have HRB := Lib.hid (ResBox.mk (p := W.heap.size) (heap_alloc_new W (.cells #[.string ⟨#[]⟩, .string ⟨#[]⟩] 23)))
    have HW := Lib.hid (alloc_below W (.cells #[.string ⟨#[]⟩, .string ⟨#[]⟩] 23))
    generalize W.alloc (.cells #[.string ⟨#[]⟩, .string ⟨#[]⟩] 23) = w0 at *
    obtain ⟨q1, f1⟩ := cell2 HRB.out.heap
    obtain ⟨q2, f2⟩ := cell2b HRB.out.heap
    refine (HV1.out w0).mono ?_
    rintro e w1 ⟨rfl, rfl⟩
    go_wp2_with fail
    refine (HV2.out w1).mono ?_
    rintro e w2 ⟨rfl, rfl⟩
    go_wp2_with fail
    refine bodyPost_ret (results_qe rfl _ _ W.heap.size _ _ rfl (HRB.out.set _ _)) rfl ?_
    exact ⟨rfl, below_set2 HW.out (Nat.le_refl _) _ _⟩
  | true =>
    cases v2 with
    | false =>
      clear h hz
      go_enter Tryz.func23, Tryz.ntmps23
      go_wp2_with fail
      have HRB := Lib.hid (ResBox.mk (p := W.heap.size) (heap_alloc_new W (.cells #[.string ⟨#[]⟩, .string ⟨#[]⟩] 23)))
      have HW := Lib.hid (alloc_below W (.cells #[.string ⟨#[]⟩, .string ⟨#[]⟩] 23))
      generalize W.alloc (.cells #[.string ⟨#[]⟩, .string ⟨#[]⟩] 23) = w0 at *
      obtain ⟨q1, f1⟩ := cell2 HRB.out.heap
      obtain ⟨q2, f2⟩ := cell2b HRB.out.heap
      refine (HV1.out w0).mono ?_
      rintro e w1 ⟨rfl, rfl⟩
      go_wp2_with fail
      refine (HV2.out w1).mono ?_
      rintro e w2 ⟨rfl, rfl⟩
      go_wp2_with fail
      refine bodyPost_ret (results_qe rfl _ _ W.heap.size _ _ rfl (HRB.out.set _ _)) rfl ?_
      exact ⟨rfl, below_set2 HW.out (Nat.le_refl _) _ _⟩
    | true =>
      obtain rfl : z = true := by simpa using h
      clear h
      go_enter Tryz.func23, Tryz.ntmps23
      go_wp2_with fail
      have HRB := Lib.hid (ResBox.mk (p := W.heap.size) (heap_alloc_new W (.cells #[.string ⟨#[]⟩, .string ⟨#[]⟩] 23)))
      have HW := Lib.hid (alloc_below W (.cells #[.string ⟨#[]⟩, .string ⟨#[]⟩] 23))
      generalize W.alloc (.cells #[.string ⟨#[]⟩, .string ⟨#[]⟩] 23) = w0 at *
      obtain ⟨q1, f1⟩ := cell2 HRB.out.heap
      obtain ⟨q2, f2⟩ := cell2b HRB.out.heap
      refine (HV1.out w0).mono ?_
      rintro e w1 ⟨rfl, rfl⟩
      go_wp2_with fail
      refine (HV2.out w1).mono ?_
      rintro e w2 ⟨rfl, rfl⟩
      go_wp2_with fail
      refine bodyPost_ret (results_qe rfl _ _ W.heap.size _ _ rfl (HRB.out.set _ _)) rfl ?_
      exact ⟨rfl, below_set2 HW.out (Nat.le_refl _) _ _⟩
set_option maxRecDepth 100000 in
theorem rmake_q (n d : ByteArray) (hn : Sized n) (hd : Sized d) (W : World) : Calls Tryz.prog 23 #[.string n, .string d] W (GivesQ (makeQ (readI n) (readI d)) W) := by
  have hv1 := fun W => rvalid_str n hn W
  have hv2 := fun W => rvalid_str d hd W
  rcases readI_cases n with ⟨a, rfl, fa, ra⟩ | ⟨_, ra⟩
  · rcases readI_cases d with ⟨b, rfl, fb, rb⟩ | ⟨_, rb⟩
    · have hz := isZ b
      by_cases h0 : b = 0
      · rw [rb, h0, makeQ_zero]
        rw [decide_eq_true h0, h0] at hz
        rw [h0] at hv2
        exact rmake_no _ _ _ _ true (by simp) hv1 hv2 hz W
      · rw [ra] at hv1
        rw [rb] at hv2
        rw [ra, rb, makeQ_ok h0]
        rw [decide_eq_false h0] at hz
        have hc := fun W => rcmp_str (intB b) ⟨#[48]⟩ W hd zero_sized
        have hcv : cmpS (intB b) ⟨#[48]⟩ = cmpI b 0 := by rw [← intB_zero, cmpS_ints fb f0]
        rw [hcv] at hc
        by_cases hneg : b < 0
        · rw [show cmpI b 0 = -1 from if_pos hneg] at hc
          have hs1 := fun W => rsub_ok 0 a f0 fa W
          have hs2 := fun W => rsub_ok 0 b f0 fb W
          rw [okS_fits (fits_neg fa), okE_fits (fits_neg fa), intB_zero] at hs1
          rw [okS_fits (fits_neg fb), okE_fits (fits_neg fb), intB_zero] at hs2
          have hk := redK (0 - a) (0 - b) (fits_neg fa) (fits_neg fb) (by omega)
          rw [divInt_neg_neg] at hk
          exact rmake_neg _ _ _ _ _ _ _ _ _ hv1 hv2 hz hc hs1 hs2 hk W
        · rw [show cmpI b 0 = 1 by unfold cmpI; rw [if_neg hneg, if_pos (by omega)]] at hc
          exact rmake_pos _ _ _ _ _ _ _ hv1 hv2 hz hc (redK a b fa fb (by omega)) W
    · rw [rb, makeQ_no2]
      rw [rb] at hv2
      exact rmake_no _ _ _ _ _ (by simp) hv1 hv2 rfl W
  · rw [ra, makeQ_no1]
    rw [ra] at hv1
    exact rmake_no _ _ _ _ _ (by simp) hv1 hv2 rfl W
set_option maxRecDepth 100000 in
set_option maxHeartbeats 4000000 in
theorem rof_q (n d : Int) (hn0 : -9223372036854775808 ≤ n) (hn1 : n ≤ 9223372036854775807) (hd0 : -9223372036854775808 ≤ d) (hd1 : d ≤ 9223372036854775807) (W : World) :
    Calls Tryz.prog 27 #[.int .i64 n, .int .i64 d] W (GivesQ (makeQ (some n) (some d)) W) := by
  have fn := fits_int hn0 hn1
  have fd := fits_int hd0 hd1
  have HM := Lib.hid (fun W => rmake_q (intB n) (intB d) (sized_fits fn) (sized_fits fd) W)
  have HFN := Lib.hid (fun W => rfrom_any n hn0 hn1 W)
  have HFD := Lib.hid (fun W => rfrom_any d hd0 hd1 W)
  rw [readI_int fn, readI_int fd] at HM
  generalize makeQ (some n) (some d) = o at *
  generalize intB n = x at *
  generalize intB d = y at *
  clear fn fd hn0 hn1 hd0 hd1
  go_enter Tryz.func27, Tryz.ntmps27
  go_wp2_with fail
  have h1 := heap_alloc_new W (.cells #[.string ⟨#[]⟩, .string ⟨#[]⟩] 23)
  have b1 := alloc_below W (.cells #[.string ⟨#[]⟩, .string ⟨#[]⟩] 23)
  generalize W.alloc (.cells #[.string ⟨#[]⟩, .string ⟨#[]⟩] 23) = w1 at *
  refine (HFN.out w1).mono ?_
  rintro e w2 ⟨rfl, hB⟩
  have HH2 := Lib.hid (heap_below hB h1)
  have HB2 := Lib.hid (belowVia hB b1)
  clear hB h1 b1
  go_wp2_with fail
  refine (HFD.out w2).mono ?_
  rintro e w3 ⟨rfl, hB⟩
  have HH3 := Lib.hid (heap_below hB HH2.out)
  have HB3 := Lib.hid (belowVia hB HB2.out)
  clear hB
  go_wp2_with fail
  refine (HM.out w3).mono ?_
  rintro e w4 ⟨rfl, hB⟩
  have HRB4 : Hid (ResBox W.heap.size w4) := ⟨heap_below hB HH3.out⟩
  have HB4 := Lib.hid (belowVia hB HB3.out)
  obtain ⟨q1, p1⟩ := cell2 HRB4.out.heap
  obtain ⟨q2, p2⟩ := cell2b HRB4.out.heap
  clear hB
  go_wp2_with fail
  refine bodyPost_ret (results_qe rfl _ _ W.heap.size _ _ rfl (HRB4.out.set _ _)) rfl ?_
  exact ⟨rfl, below_set2 HB4.out (Nat.le_refl _) _ _⟩
end Go.Proofs.YtelckldddflmmaaGreatDoor
/- RatSmall: The reference's pick and Small. -/
namespace Go.Proofs.YtelckldddflmmaaGreatDoor
open Go.RowKit Putlog

set_option maxRecDepth 100000 in
set_option maxHeartbeats 2000000 in
theorem rpick_q (c n : Int) (h0 : -9223372036854775808 ≤ c) (h1 : c ≤ 9223372036854775807) (hn : 0 < n) (hn2 : n ≤ 9223372036854775807) (W : World) :
    Calls Tryz.prog 37 #[.int .i64 c, .int .i64 n] W fun e w' => e = .returned (.int .i64 (pickN c n)) ∧ w' = W := by
  unfold pickN
  by_cases h : c < 0
  · rw [if_pos h]
    obtain ⟨d, rfl⟩ : ∃ d, c = -d - 1 := ⟨-c - 1, by omega⟩
    have e1 : -(-d - 1 + 1) = d := by omega
    rw [e1]
    have e2 : IntKind.i64.wrap (-d - 1 + 1) = -d := by rw [IntKind.wrap_i64]; omega
    have e3 : wrap64 d = d := by unfold wrap64; omega
    have e4 : d.tmod n = d % n := Int.tmod_eq_emod_of_nonneg (by omega)
    have e5 : IntKind.i64.wrap (d % n) = d % n := by
      have := Int.emod_nonneg d (show n ≠ 0 by omega); have := Int.emod_lt_of_pos d hn
      rw [IntKind.wrap_i64]; omega
    obtain ⟨c2, hc2⟩ : ∃ c2, c2 = -d - 1 := ⟨_, rfl⟩
    rw [← hc2] at h e2 ⊢
    obtain ⟨r, hr⟩ : ∃ r, r = d % n := ⟨_, rfl⟩
    rw [← hr] at e4 e5 ⊢
    clear h0 h1 e1 hc2 hr
    go_enter Tryz.func37, Tryz.ntmps37
    go_wp2_with fail
    go_ret
    exact ⟨rfl, rfl⟩
  · rw [if_neg h]
    have h2 : 0 ≤ c := by omega
    have e4 : c.tmod n = c % n := Int.tmod_eq_emod_of_nonneg h2
    obtain ⟨r, hr⟩ : ∃ r, r = c % n := ⟨_, rfl⟩
    rw [← hr] at e4 ⊢
    clear h0 h1 h hr
    go_enter Tryz.func37, Tryz.ntmps37
    go_wp2_with fail
    go_ret
    exact ⟨rfl, rfl⟩
/-- A number of 64 bits. -/
def I64 (x : Int) : Prop := -9223372036854775808 ≤ x ∧ x ≤ 9223372036854775807
theorem small_sz {a b : Int} (ha : a.natAbs < 1000) (hb : 0 < b) (hb2 : b ≤ 60) : makeQ (some a) (some b) = some (Rat.divInt a b) ∧ Sz 3 2 (Rat.divInt a b) := by
  refine ⟨makeQ_ok (by omega), ?_, ?_⟩
  · exact Nat.lt_of_le_of_lt (red_num hb) ha
  · exact Nat.lt_of_le_of_lt (red_den hb) (show b.natAbs < 10 ^ 2 by omega)
set_option maxRecDepth 100000 in
set_option maxHeartbeats 2000000 in
theorem small_q (x0 x1 : Int) (h0 : I64 x0) (h1 : I64 x1) (W : World) :
    Calls Tryz.prog 9 #[.agg #[.int .i64 x0, .int .i64 x1]] W fun e w' => (∃ q, e = .returned (.agg #[.string (intB q.num), .string (intB q.den)]) ∧ Sz 3 2 q) ∧ Below W.heap.size W w' := by
  have HP0 := Lib.hid (fun W => rpick_q x0 1999 h0.1 h0.2 (by decide) (by decide) W)
  have HP1 := Lib.hid (fun W => rpick_q x1 60 h1.1 h1.2 (by decide) (by decide) W)
  obtain ⟨a0, a1⟩ := pickN_bounds x0 (n := 1999) (by decide)
  obtain ⟨b0, b1⟩ := pickN_bounds x1 (n := 60) (by decide)
  generalize pickN x0 1999 = a at *
  generalize pickN x1 60 = b at *
  obtain ⟨e1, e2⟩ := small_sz (a := a - 999) (b := 1 + b) (by omega) (by omega) (by omega)
  obtain ⟨c, hc⟩ : ∃ c, c = a - 999 := ⟨_, rfl⟩
  obtain ⟨d, hd⟩ : ∃ d, d = 1 + b := ⟨_, rfl⟩
  have w1 : IntKind.i64.wrap (a - 999) = c := by rw [IntKind.wrap_i64]; omega
  have w2 : IntKind.i64.wrap (1 + b) = d := by rw [IntKind.wrap_i64]; omega
  rw [← hc, ← hd] at e1 e2
  have HO := Lib.hid (fun W => rof_q c d (by omega) (by omega) (by omega) (by omega) W)
  rw [e1] at HO
  have HZ := Lib.hid e2
  generalize Rat.divInt c d = q at *
  have HO : Hid (∀ W, Calls Tryz.prog 27 #[.int .i64 c, .int .i64 d] W fun e w' => e = .returned (.tuple #[.agg #[.string (intB q.num), .string (intB q.den)], .int .i64 0]) ∧ Below W.heap.size W w') := HO.out
  clear hc hd h0 h1 a0 a1 b0 b1 e1 e2
  go_enter Tryz.func9, Tryz.ntmps9
  go_wp2_with fail
  obtain ⟨l0, l1, lb⟩ := cell_row2 W (.int .i64 x0) (.int .i64 x1) 25
  have zz := alloc_size W (.cells #[.int .i64 x0, .int .i64 x1] 25)
  generalize W.alloc (.cells #[.int .i64 x0, .int .i64 x1] 25) = va at *
  have hr := heap_alloc_new va (.cells #[.string ⟨#[]⟩, .string ⟨#[]⟩] 23)
  rw [zz] at hr
  have rb := alloc_below va (.cells #[.string ⟨#[]⟩, .string ⟨#[]⟩] 23)
  have m0 := keptBelow rb l0
  have m1 := keptBelow rb l1
  have HB := Lib.hid (belowVia rb lb)
  generalize va.alloc (.cells #[.string ⟨#[]⟩, .string ⟨#[]⟩] 23) = v at *
  have lv := lt_of_cell m0
  have hlr : W.heap.size + 1 < v.heap.size := (Array.getElem?_eq_some_iff.1 hr).1
  have HR := Lib.hid hr
  clear l0 l1 lb zz rb hr
  go_region_held3 (fun w' => w'.cell? ⟨W.heap.size, 0, none⟩ = some (.int .i64 x0) ∧ w'.cell? ⟨W.heap.size, 1, none⟩ = some (.int .i64 x1) ∧ Below v.heap.size v w')
    (first | assumption | exact ⟨m0, m1, (Below.refl _ _).drew⟩ | exact s3Keep (by assumption) (alloc_below _ _) | exact s3Keep (by assumption) hB3 | exact s3Swap (by assumption) (by omega) (by omega) | exact s3Store (by assumption) (by omega) (by omega)) (first
    | (go_at_call 37; (first | ((with_reducible refine (HP0.out _).mono ?_); rintro e u1 ⟨rfl, rfl⟩) | ((with_reducible refine (HP1.out _).mono ?_); rintro e u2 ⟨rfl, rfl⟩)))
    | (go_at_call 27; (with_reducible refine (HO.out _).mono ?_); rintro e u3 ⟨rfl, hB3⟩; have M3 : v.heap.size ≤ u3.heap.size := s3Size (by assumption) hB3; (first | have X3 := pairVia hB3 (pairNew _ _ _ _) | skip); (first | (obtain ⟨X5, X6, X7, X8⟩ := X3; (try simp only [alloc_size] at X5 X6 X7 X8); (try simp only [drew_size] at X5 X6 X7 X8)) | skip)))
  all_goals
    have HH : Hid (Below v.heap.size v _) := And.right (And.right (by assumption))
    first
      | (have BQ := BoxQ.new u3 (intB q.num) (intB q.den); (obtain ⟨c0, c1⟩ := BQ))
      | (have BQ := BoxQ.stored (x := intB q.num) (y := intB q.den) X5 X6; (obtain ⟨c0, c1⟩ := BQ))
    have HRR : Hid (ResBox (W.heap.size + 1) _) := ⟨heap_below HH.out HR.out⟩
    have HBB := Lib.hid (belowVia HH.out HB.out)
    obtain ⟨q1, f1⟩ := cell2 HRR.out.heap
    obtain ⟨q2, f2⟩ := cell2b HRR.out.heap
    go_wp2_with fail
    refine bodyPost_ret (results_q rfl _ _ (W.heap.size + 1) _ _ rfl (HRR.out.set _ _)) rfl ?_
    exact ⟨⟨q, rfl, HZ.out⟩, below_set2 HBB.out (by omega) _ _⟩
end Go.Proofs.YtelckldddflmmaaGreatDoor
/- RatLong: The reference's long fractions. -/
namespace Go.Proofs.YtelckldddflmmaaGreatDoor
open Go.RowKit Putlog

/-- The boxes of Long: the argument, the result, two texts. -/
structure LAt (p : Nat) (x0 x1 x2 x3 : Int) (s0 s1 : ByteArray) (w : World) : Prop where
  x : w.heap[p]? = some (.cells #[.int .i64 x0, .int .i64 x1, .int .i64 x2, .int .i64 x3] 24 (0, 0))
  r : w.heap[p + 1]? = some (.cells #[.string ⟨#[]⟩, .string ⟨#[]⟩] 23 (0, 0))
  o : w.heap[p + 1 + 1]? = some (.cells #[.string s0, .string s1] 53 (0, 0))
theorem LAt.via {p : Nat} {x0 x1 x2 x3 : Int} {s0 s1 : ByteArray} {w w' : World} (h : LAt p x0 x1 x2 x3 s0 s1 w) (hB : Below w.heap.size w w') : LAt p x0 x1 x2 x3 s0 s1 w' := ⟨heap_below hB h.x, heap_below hB h.r, heap_below hB h.o⟩
theorem LAt.set0 {p : Nat} {x0 x1 x2 x3 : Int} {s0 s1 : ByteArray} {w : World} (h : LAt p x0 x1 x2 x3 s0 s1 w) (t : ByteArray) : LAt p x0 x1 x2 x3 t s1 (w.setCell ⟨p + 1 + 1, 0, none⟩ (.string t)) :=
  ⟨(heap_setCell_other _ _ _ _ (by show p ≠ p + 1 + 1; omega)).trans h.x, (heap_setCell_other _ _ _ _ (by show p + 1 ≠ p + 1 + 1; omega)).trans h.r, heap_setCell_same _ _ 0 _ _ _ h.o⟩
theorem LAt.set1 {p : Nat} {x0 x1 x2 x3 : Int} {s0 s1 : ByteArray} {w : World} (h : LAt p x0 x1 x2 x3 s0 s1 w) (t : ByteArray) : LAt p x0 x1 x2 x3 s0 t (w.setCell ⟨p + 1 + 1, 1, none⟩ (.string t)) :=
  ⟨(heap_setCell_other _ _ _ _ (by show p ≠ p + 1 + 1; omega)).trans h.x, (heap_setCell_other _ _ _ _ (by show p + 1 ≠ p + 1 + 1; omega)).trans h.r, heap_setCell_same _ _ 1 _ _ _ h.o⟩
def lenOf : Value → Nat
  | .string s => s.size
  | _ => 0
def OkS (s : ByteArray) : Prop := ∃ N : Nat, s = intB N ∧ N < 10 ^ 100
theorem seven_text : (⟨#[55]⟩ : ByteArray) = intB ((7 : Nat) : Int) := by decide +kernel
theorem long_make {t u : ByteArray} {a : Int} {N : Nat} (ht : t = intB a ∧ a.natAbs < 10 ^ 100) (hu : u = intB N) (hN : N < 10 ^ 100) (h0 : 0 < N) :
    ∃ q : Rat, Sz 100 100 q ∧ ∀ w, Calls Tryz.prog 23 #[.string t, .string u] w fun e w' => e = .returned (.tuple #[.agg #[.string (intB q.num), .string (intB q.den)], .int .i64 0]) ∧ Below w.heap.size w w' := by
  obtain ⟨rfl, ha⟩ := ht
  subst hu
  obtain ⟨e1, e2⟩ := long_sz ha hN h0
  have fa : Fits a := fits_pow ha (by decide)
  have fn : Fits (N : Int) := fits_pow (show (N : Int).natAbs < 10 ^ 100 by rw [Int.natAbs_natCast]; exact hN) (by decide)
  refine ⟨_, e2, fun w => ?_⟩
  refine (rmake_q (intB a) (intB N) (sized_fits fa) (sized_fits fn) w).mono ?_
  rw [readI_int fa, readI_int fn, e1]
  exact fun e w' h => h
set_option maxRecDepth 100000 in
set_option maxHeartbeats 8000000 in
theorem long_q (x0 x1 x2 x3 : Int) (h0 : I64 x0) (h1 : I64 x1) (h2 : I64 x2) (h3 : I64 x3) (W : World) :
    Calls Tryz.prog 8 #[.agg #[.int .i64 x0, .int .i64 x1, .int .i64 x2, .int .i64 x3]] W fun e w' => (∃ q, e = .returned (.agg #[.string (intB q.num), .string (intB q.den)]) ∧ Sz 100 100 q) ∧ Below W.heap.size W w' := by
  have HP0 := Lib.hid (fun W => rpick_q x0 1000000007 h0.1 h0.2 (by decide) (by decide) W)
  have HP1 := Lib.hid (fun W => rpick_q x1 100 h1.1 h1.2 (by decide) (by decide) W)
  have HP2 := Lib.hid (fun W => rpick_q x2 1000000007 h2.1 h2.2 (by decide) (by decide) W)
  have HP3 := Lib.hid (fun W => rpick_q x3 100 h3.1 h3.2 (by decide) (by decide) W)
  have HP4 := Lib.hid (fun W => rpick_q x0 2 h0.1 h0.2 (by decide) (by decide) W)
  have HI0 := Lib.hid (pickN_bounds x0 (n := 1000000007) (by decide))
  have HI1 := Lib.hid (pickN_bounds x1 (n := 100) (by decide))
  have HI2 := Lib.hid (pickN_bounds x2 (n := 1000000007) (by decide))
  have HI3 := Lib.hid (pickN_bounds x3 (n := 100) (by decide))
  generalize pickN x0 1000000007 = c0 at *
  generalize pickN x1 100 = n0 at *
  generalize pickN x2 1000000007 = c1 at *
  generalize pickN x3 100 = n1 at *
  generalize pickN x0 2 = sg at *
  clear h0 h1 h2 h3
  go_enter Tryz.func8, Tryz.ntmps8
  go_wp2_with fail
  have HL : Hid (LAt W.heap.size x0 x1 x2 x3 ⟨#[]⟩ ⟨#[]⟩ (((W.alloc (.cells #[.int .i64 x0, .int .i64 x1, .int .i64 x2, .int .i64 x3] 24)).alloc (.cells #[.string ⟨#[]⟩, .string ⟨#[]⟩] 23)).alloc (.cells #[.string ⟨#[]⟩, .string ⟨#[]⟩] 53))) := by
    have h1 := alloc_below W (.cells #[.int .i64 x0, .int .i64 x1, .int .i64 x2, .int .i64 x3] 24)
    have h2 := alloc_below (W.alloc (.cells #[.int .i64 x0, .int .i64 x1, .int .i64 x2, .int .i64 x3] 24)) (.cells #[.string ⟨#[]⟩, .string ⟨#[]⟩] 23)
    have h3 := alloc_below ((W.alloc (.cells #[.int .i64 x0, .int .i64 x1, .int .i64 x2, .int .i64 x3] 24)).alloc (.cells #[.string ⟨#[]⟩, .string ⟨#[]⟩] 23)) (.cells #[.string ⟨#[]⟩, .string ⟨#[]⟩] 53)
    have g1 := heap_alloc_new W (.cells #[.int .i64 x0, .int .i64 x1, .int .i64 x2, .int .i64 x3] 24)
    have g2 := heap_alloc_new (W.alloc (.cells #[.int .i64 x0, .int .i64 x1, .int .i64 x2, .int .i64 x3] 24)) (.cells #[.string ⟨#[]⟩, .string ⟨#[]⟩] 23)
    have g3 := heap_alloc_new ((W.alloc (.cells #[.int .i64 x0, .int .i64 x1, .int .i64 x2, .int .i64 x3] 24)).alloc (.cells #[.string ⟨#[]⟩, .string ⟨#[]⟩] 23)) (.cells #[.string ⟨#[]⟩, .string ⟨#[]⟩] 53)
    simp only [alloc_size] at g2 g3
    exact ⟨heap_below h3 (heap_below h2 g1), heap_below h3 g2, g3⟩
  have HW : Hid (Below W.heap.size W (((W.alloc (.cells #[.int .i64 x0, .int .i64 x1, .int .i64 x2, .int .i64 x3] 24)).alloc (.cells #[.string ⟨#[]⟩, .string ⟨#[]⟩] 23)).alloc (.cells #[.string ⟨#[]⟩, .string ⟨#[]⟩] 53))) := belowVia (alloc_below _ _) (belowVia (alloc_below _ _) (alloc_below _ _))
  generalize ((W.alloc (.cells #[.int .i64 x0, .int .i64 x1, .int .i64 x2, .int .i64 x3] 24)).alloc (.cells #[.string ⟨#[]⟩, .string ⟨#[]⟩] 23)).alloc (.cells #[.string ⟨#[]⟩, .string ⟨#[]⟩] 53) = v3 at *
  go_loopw [4] (fun i wr => ∃ (k : Nat) (s0 s1 : ByteArray), k ≤ 2 ∧ i = .int .i64 k ∧ LAt W.heap.size x0 x1 x2 x3 s0 s1 wr ∧ (1 ≤ k → OkS s0) ∧ (2 ≤ k → OkS s1) ∧ Below W.heap.size W wr) (fun i _ => 2 - (intOf i).toNat)
  case atStart => exact ⟨0, _, _, by omega, rfl, HL.out, (fun h => absurd h (by decide)), (fun h => absurd h (by decide)), HW.out⟩
  case round =>
    clear HL HW
    obtain ⟨k, s0, s1, hk, rfl, hL, hO0, hO1, hW⟩ := hrel
    have HL := Lib.hid hL
    have HW := Lib.hid hW
    have HO0 := Lib.hid hO0
    have HO1 := Lib.hid hO1
    clear hL hW hO0 hO1
    rcases k with _ | _ | k
    · obtain ⟨m0, hm0⟩ : ∃ m, m = 1 + n0 := ⟨_, rfl⟩
      have hn := HI1.out
      have hw : IntKind.i64.wrap (1 + n0) = m0 := by rw [IntKind.wrap_i64]; omega
      have hm1 : 1 ≤ m0 := by omega
      have hm2 : m0 ≤ 100 := by omega
      have HM := Lib.hid hm1
      have HM2 := Lib.hid hm2
      clear hm0 hn hm1 hm2
      have q := (cell_of_row wr _ 1 _ _ _ HL.out.x).trans (by rfl : _ = some (.int .i64 x1))
      have q2 := (cell_of_row wr _ 0 _ _ _ HL.out.x).trans (by rfl : _ = some (.int .i64 x0))
      go_wp2_with fail
      refine (HP1.out wr).mono ?_
      rintro e w1 ⟨rfl, rfl⟩
      go_wp2_with fail
      refine (HP0.out w1).mono ?_
      rintro e w2 ⟨rfl, rfl⟩
      go_wp2_with fail
      clear q q2
      go_loopw [6, 7] (fun sv cv wr => ∃ (s : ByteArray) (c : Int), sv = .string s ∧ cv = .int .i64 c ∧ Digs s ∧ (s.size : Int) ≤ m0 ∧ 0 ≤ c ∧ c < 2147483647 ∧ LAt W.heap.size x0 x1 x2 x3 s0 s1 wr ∧ Below W.heap.size W wr) (fun sv _ _ => m0.toNat - lenOf sv)
      case atStart => exact ⟨_, _, rfl, rfl, digs_nil, (by have := HM.out; show (0 : Int) ≤ m0; omega), HI0.out.1, by have := HI0.out.2; omega, HL.out, HW.out⟩
      case round =>
        clear HL HW
        obtain ⟨s, c, rfl, rfl, hd, hz, hc0, hc1, hL, hW⟩ := hrel
        have HL := Lib.hid hL
        have HW := Lib.hid hW
        have HD := Lib.hid hd
        have HZ := Lib.hid hz
        clear hL hW hd
        by_cases hlt : (s.size : Int) < m0
        · obtain ⟨a1, ha1⟩ : ∃ a, a = c * 48271 := ⟨_, rfl⟩
          obtain ⟨a2, ha2⟩ : ∃ a, a = a1 + 11 := ⟨_, rfl⟩
          obtain ⟨c2, hc2⟩ : ∃ a, a = a2 % 2147483647 := ⟨_, rfl⟩
          obtain ⟨qq, hqq⟩ : ∃ a, a = c2 / 65536 := ⟨_, rfl⟩
          obtain ⟨g, hg⟩ : ∃ a, a = qq % 10 := ⟨_, rfl⟩
          obtain ⟨b, hb⟩ : ∃ a, a = 48 + g := ⟨_, rfl⟩
          have wA : IntKind.i64.wrap (c * 48271) = a1 := by rw [IntKind.wrap_i64]; omega
          have wB : IntKind.i64.wrap (a1 + 11) = a2 := by rw [IntKind.wrap_i64]; omega
          have t1 : a2.tmod 2147483647 = c2 := by rw [Int.tmod_eq_emod_of_nonneg (by omega)]; omega
          have t2 : c2.tdiv 65536 = qq := by rw [Int.tdiv_eq_ediv_of_nonneg (by omega)]; omega
          have t3 : qq.tmod 10 = g := by rw [Int.tmod_eq_emod_of_nonneg (by omega)]; omega
          have wC : IntKind.i64.wrap (48 + g) = b := by rw [IntKind.wrap_i64]; omega
          have wD : IntKind.u8.wrap b = b := by rw [IntKind.wrap_u8]; omega
          have b0 : 48 ≤ b := by omega
          have b1 : b ≤ 57 := by omega
          have e0 : 0 ≤ c2 := by omega
          have e1 : c2 < 2147483647 := by omega
          have hz2 : (s.size : Int) ≤ 100 := by have := HM2.out; omega
          have wE : wrap64 qq = qq := by unfold wrap64; omega
          have wF : wrap64 (48 + g) = b := by unfold wrap64; omega
          clear ha1 ha2 hc2 hqq hg hb hc0 hc1
          obtain ⟨bu, hbu⟩ : ∃ u : UInt8, b = (u.toNat : Int) := ⟨UInt8.ofNat b.toNat, by rw [UInt8.toNat_ofNat']; omega⟩
          subst hbu
          have wG : (bu.toNat : Int) % 256 = bu.toNat := by omega
          have HU : Hid (IsDig bu) := by unfold IsDig; exact ⟨by omega, by omega⟩
          have hcv := convB (wr.alloc (.cells #[.int .u8 (bu.toNat : Int)] 5)) wr.heap.size 1 [bu] (fun j hj => by
            obtain rfl : j = 0 := by simpa using hj
            exact cell_rowN wr _ _ 0 rfl)
          simp only [List.length_cons, List.length_nil, Nat.zero_add] at hcv
          have HB2 := Lib.hid (alloc_below wr (.cells #[.int .u8 (bu.toNat : Int)] 5))
          have HS := Lib.hid (size_app s bu)
          clear b0 b1
          go_wp2_with fail
          go_roundw
          case rel => exact ⟨_, _, rfl, rfl, digs_app HD.out HU.out, by rw [HS.out]; omega, e0, e1, HL.out.via HB2.out, belowVia HB2.out HW.out⟩
          case measure => simp only [lenOf]; rw [HS.out]; omega
        · have hm := HM.out
          have hm2 := HM2.out
          have z0 : 0 < s.size := by omega
          have z1 : s.size ≤ 100 := by omega
          have Z0 := Lib.hid z0
          have Z1 := Lib.hid z1
          have hlt2 : m0 ≤ (s.size : Int) := by omega
          clear hm hm2 hlt hc0 hc1 z0 z1
          go_wp2_with fail
          clear hlt2 hz HZ
          go_loopw [6] (fun sv wr => ∃ s : ByteArray, sv = .string s ∧ Digs s ∧ 0 < s.size ∧ s.size ≤ 100 ∧ LAt W.heap.size x0 x1 x2 x3 s0 s1 wr ∧ Below W.heap.size W wr) (fun sv _ => lenOf sv)
          case atStart => exact ⟨s, rfl, HD.out, Z0.out, Z1.out, HL.out, HW.out⟩
          case round =>
            clear HL HW HD Z0 Z1
            obtain ⟨s, rfl, hd, z0, z1, hL, hW⟩ := hrel
            have HL := Lib.hid hL
            have HW := Lib.hid hW
            have HD := Lib.hid hd
            have HZ0 := Lib.hid z0
            have HZ1 := Lib.hid z1
            clear hL hW hd
            have z0' : (0 : Int) < s.size := by omega
            have z1' : (s.size : Int) ≤ 100 := by omega
            by_cases hl : (1 : Int) < s.size
            · by_cases hq0 : (s[0]).toNat = 48
              · have hq : (((s[0]).toNat : Int) == 48) = true := beq_iff_eq.2 (by omega)
                have HCD := Lib.hid (digs_cut HD.out)
                have HCS := Lib.hid (size_cut s)
                have HL1 := Lib.hid hl
                clear hq0
                go_wp2_with fail
                go_roundw
                case rel => exact ⟨_, rfl, HCD.out, by rw [HCS.out]; have := HL1.out; omega, by rw [HCS.out]; have := HZ1.out; omega, HL.out, HW.out⟩
                case measure => simp only [lenOf]; rw [HCS.out]; have := HL1.out; omega
              · have hq : (((s[0]).toNat : Int) == 48) = false := beq_eq_false_iff_ne.2 (by omega)
                have HH : Hid (s.size = 1 ∨ (s[0]).toNat ≠ 48) := .inr hq0
                clear hq0
                have HOK : Hid (OkS s) := by
                  have h1 := HD.out
                  have h2 := HZ0.out
                  have h3 := HZ1.out
                  exact digs_int h1 h2 HH.out h3
                have f1 := (cell_of_row wr _ 0 _ _ _ HL.out.o).trans (by rfl : _ = some (.string s0))
                have f2 := frozen_of_row wr _ 0 _ _ HL.out.o
                go_wp2_with fail
                go_roundw
                case rel => exact ⟨1, _, _, by omega, by go_num, HL.out.set0 s, (fun _ => HOK.out), (fun h => absurd h (by decide)), HW.out.setCell (p := ⟨W.heap.size + 1 + 1, 0, none⟩) (by show _ ≤ W.heap.size + 1 + 1; omega) _⟩
                case measure => simp [intOf]
            · have HH : Hid (s.size = 1 ∨ (s[0]).toNat ≠ 48) := .inl (by omega)
              have HOK : Hid (OkS s) := by
                have h1 := HD.out
                have h2 := HZ0.out
                have h3 := HZ1.out
                exact digs_int h1 h2 HH.out h3
              have f1 := (cell_of_row wr _ 0 _ _ _ HL.out.o).trans (by rfl : _ = some (.string s0))
              have f2 := frozen_of_row wr _ 0 _ _ HL.out.o
              go_wp2_with fail
              go_roundw
              case rel => exact ⟨1, _, _, by omega, by go_num, HL.out.set0 s, (fun _ => HOK.out), (fun h => absurd h (by decide)), HW.out.setCell (p := ⟨W.heap.size + 1 + 1, 0, none⟩) (by show _ ≤ W.heap.size + 1 + 1; omega) _⟩
              case measure => simp [intOf]
    · obtain ⟨m0, hm0⟩ : ∃ m, m = 1 + n1 := ⟨_, rfl⟩
      have hn := HI3.out
      have hw : IntKind.i64.wrap (1 + n1) = m0 := by rw [IntKind.wrap_i64]; omega
      have hm1 : 1 ≤ m0 := by omega
      have hm2 : m0 ≤ 100 := by omega
      have HM := Lib.hid hm1
      have HM2 := Lib.hid hm2
      clear hm0 hn hm1 hm2
      have q := (cell_of_row wr _ 3 _ _ _ HL.out.x).trans (by rfl : _ = some (.int .i64 x3))
      have q2 := (cell_of_row wr _ 2 _ _ _ HL.out.x).trans (by rfl : _ = some (.int .i64 x2))
      go_wp2_with fail
      refine (HP3.out wr).mono ?_
      rintro e w1 ⟨rfl, rfl⟩
      go_wp2_with fail
      refine (HP2.out w1).mono ?_
      rintro e w2 ⟨rfl, rfl⟩
      go_wp2_with fail
      clear q q2
      go_loopw [6, 7] (fun sv cv wr => ∃ (s : ByteArray) (c : Int), sv = .string s ∧ cv = .int .i64 c ∧ Digs s ∧ (s.size : Int) ≤ m0 ∧ 0 ≤ c ∧ c < 2147483647 ∧ LAt W.heap.size x0 x1 x2 x3 s0 s1 wr ∧ Below W.heap.size W wr) (fun sv _ _ => m0.toNat - lenOf sv)
      case atStart => exact ⟨_, _, rfl, rfl, digs_nil, (by have := HM.out; show (0 : Int) ≤ m0; omega), HI2.out.1, by have := HI2.out.2; omega, HL.out, HW.out⟩
      case round =>
        clear HL HW
        obtain ⟨s, c, rfl, rfl, hd, hz, hc0, hc1, hL, hW⟩ := hrel
        have HL := Lib.hid hL
        have HW := Lib.hid hW
        have HD := Lib.hid hd
        have HZ := Lib.hid hz
        clear hL hW hd
        by_cases hlt : (s.size : Int) < m0
        · obtain ⟨a1, ha1⟩ : ∃ a, a = c * 48271 := ⟨_, rfl⟩
          obtain ⟨a2, ha2⟩ : ∃ a, a = a1 + 11 := ⟨_, rfl⟩
          obtain ⟨c2, hc2⟩ : ∃ a, a = a2 % 2147483647 := ⟨_, rfl⟩
          obtain ⟨qq, hqq⟩ : ∃ a, a = c2 / 65536 := ⟨_, rfl⟩
          obtain ⟨g, hg⟩ : ∃ a, a = qq % 10 := ⟨_, rfl⟩
          obtain ⟨b, hb⟩ : ∃ a, a = 48 + g := ⟨_, rfl⟩
          have wA : IntKind.i64.wrap (c * 48271) = a1 := by rw [IntKind.wrap_i64]; omega
          have wB : IntKind.i64.wrap (a1 + 11) = a2 := by rw [IntKind.wrap_i64]; omega
          have t1 : a2.tmod 2147483647 = c2 := by rw [Int.tmod_eq_emod_of_nonneg (by omega)]; omega
          have t2 : c2.tdiv 65536 = qq := by rw [Int.tdiv_eq_ediv_of_nonneg (by omega)]; omega
          have t3 : qq.tmod 10 = g := by rw [Int.tmod_eq_emod_of_nonneg (by omega)]; omega
          have wC : IntKind.i64.wrap (48 + g) = b := by rw [IntKind.wrap_i64]; omega
          have wD : IntKind.u8.wrap b = b := by rw [IntKind.wrap_u8]; omega
          have b0 : 48 ≤ b := by omega
          have b1 : b ≤ 57 := by omega
          have e0 : 0 ≤ c2 := by omega
          have e1 : c2 < 2147483647 := by omega
          have hz2 : (s.size : Int) ≤ 100 := by have := HM2.out; omega
          have wE : wrap64 qq = qq := by unfold wrap64; omega
          have wF : wrap64 (48 + g) = b := by unfold wrap64; omega
          clear ha1 ha2 hc2 hqq hg hb hc0 hc1
          obtain ⟨bu, hbu⟩ : ∃ u : UInt8, b = (u.toNat : Int) := ⟨UInt8.ofNat b.toNat, by rw [UInt8.toNat_ofNat']; omega⟩
          subst hbu
          have wG : (bu.toNat : Int) % 256 = bu.toNat := by omega
          have HU : Hid (IsDig bu) := by unfold IsDig; exact ⟨by omega, by omega⟩
          have hcv := convB (wr.alloc (.cells #[.int .u8 (bu.toNat : Int)] 5)) wr.heap.size 1 [bu] (fun j hj => by
            obtain rfl : j = 0 := by simpa using hj
            exact cell_rowN wr _ _ 0 rfl)
          simp only [List.length_cons, List.length_nil, Nat.zero_add] at hcv
          have HB2 := Lib.hid (alloc_below wr (.cells #[.int .u8 (bu.toNat : Int)] 5))
          have HS := Lib.hid (size_app s bu)
          clear b0 b1
          go_wp2_with fail
          go_roundw
          case rel => exact ⟨_, _, rfl, rfl, digs_app HD.out HU.out, by rw [HS.out]; omega, e0, e1, HL.out.via HB2.out, belowVia HB2.out HW.out⟩
          case measure => simp only [lenOf]; rw [HS.out]; omega
        · have hm := HM.out
          have hm2 := HM2.out
          have z0 : 0 < s.size := by omega
          have z1 : s.size ≤ 100 := by omega
          have Z0 := Lib.hid z0
          have Z1 := Lib.hid z1
          have hlt2 : m0 ≤ (s.size : Int) := by omega
          clear hm hm2 hlt hc0 hc1 z0 z1
          go_wp2_with fail
          clear hlt2 hz HZ
          go_loopw [6] (fun sv wr => ∃ s : ByteArray, sv = .string s ∧ Digs s ∧ 0 < s.size ∧ s.size ≤ 100 ∧ LAt W.heap.size x0 x1 x2 x3 s0 s1 wr ∧ Below W.heap.size W wr) (fun sv _ => lenOf sv)
          case atStart => exact ⟨s, rfl, HD.out, Z0.out, Z1.out, HL.out, HW.out⟩
          case round =>
            clear HL HW HD Z0 Z1
            obtain ⟨s, rfl, hd, z0, z1, hL, hW⟩ := hrel
            have HL := Lib.hid hL
            have HW := Lib.hid hW
            have HD := Lib.hid hd
            have HZ0 := Lib.hid z0
            have HZ1 := Lib.hid z1
            clear hL hW hd
            have z0' : (0 : Int) < s.size := by omega
            have z1' : (s.size : Int) ≤ 100 := by omega
            by_cases hl : (1 : Int) < s.size
            · by_cases hq0 : (s[0]).toNat = 48
              · have hq : (((s[0]).toNat : Int) == 48) = true := beq_iff_eq.2 (by omega)
                have HCD := Lib.hid (digs_cut HD.out)
                have HCS := Lib.hid (size_cut s)
                have HL1 := Lib.hid hl
                clear hq0
                go_wp2_with fail
                go_roundw
                case rel => exact ⟨_, rfl, HCD.out, by rw [HCS.out]; have := HL1.out; omega, by rw [HCS.out]; have := HZ1.out; omega, HL.out, HW.out⟩
                case measure => simp only [lenOf]; rw [HCS.out]; have := HL1.out; omega
              · have hq : (((s[0]).toNat : Int) == 48) = false := beq_eq_false_iff_ne.2 (by omega)
                have HH : Hid (s.size = 1 ∨ (s[0]).toNat ≠ 48) := .inr hq0
                clear hq0
                have HOK : Hid (OkS s) := by
                  have h1 := HD.out
                  have h2 := HZ0.out
                  have h3 := HZ1.out
                  exact digs_int h1 h2 HH.out h3
                have f1 := (cell_of_row wr _ 1 _ _ _ HL.out.o).trans (by rfl : _ = some (.string s1))
                have f2 := frozen_of_row wr _ 1 _ _ HL.out.o
                go_wp2_with fail
                go_roundw
                case rel => exact ⟨2, _, _, by omega, by go_num, HL.out.set1 s, (fun _ => HO0.out (by omega)), (fun _ => HOK.out), HW.out.setCell (p := ⟨W.heap.size + 1 + 1, 1, none⟩) (by show _ ≤ W.heap.size + 1 + 1; omega) _⟩
                case measure => simp [intOf]
            · have HH : Hid (s.size = 1 ∨ (s[0]).toNat ≠ 48) := .inl (by omega)
              have HOK : Hid (OkS s) := by
                have h1 := HD.out
                have h2 := HZ0.out
                have h3 := HZ1.out
                exact digs_int h1 h2 HH.out h3
              have f1 := (cell_of_row wr _ 1 _ _ _ HL.out.o).trans (by rfl : _ = some (.string s1))
              have f2 := frozen_of_row wr _ 1 _ _ HL.out.o
              go_wp2_with fail
              go_roundw
              case rel => exact ⟨2, _, _, by omega, by go_num, HL.out.set1 s, (fun _ => HO0.out (by omega)), (fun _ => HOK.out), HW.out.setCell (p := ⟨W.heap.size + 1 + 1, 1, none⟩) (by show _ ≤ W.heap.size + 1 + 1; omega) _⟩
              case measure => simp [intOf]
    · obtain rfl : k = 0 := by omega
      obtain ⟨N0, rfl, hN0⟩ := HO0.out (by omega)
      obtain ⟨N1, rfl, hN1⟩ := HO1.out (by omega)
      have HN0 : Hid ((N0 : Int).natAbs < 10 ^ 100) := by show _ < _; rw [Int.natAbs_natCast]; exact hN0
      have HNM : Hid ((-(N0 : Int)).natAbs < 10 ^ 100) := by show _ < _; rw [Int.natAbs_neg, Int.natAbs_natCast]; exact hN0
      have HN1 := Lib.hid hN1
      clear hN0 hN1 HO0 HO1 hk
      have q := (cell_of_row wr _ 0 _ _ _ HL.out.x).trans (by rfl : _ = some (.int .i64 x0))
      have o1 := (cell_of_row wr _ 1 _ _ _ HL.out.o).trans (by rfl : _ = some (.string (intB N1)))
      have f1 := frozen_of_row wr _ 1 _ _ HL.out.o
      rcases Nat.eq_zero_or_pos N1 with hz1 | hz1
      · have iz1 : ((intB N1).toList == [48]) = true := by rw [isZ]; exact decide_eq_true (by omega)
        clear hz1
        go_wp2_with fail
        have HL := Lib.hid (HL.out.set1 ⟨#[55]⟩)
        have HW := Lib.hid (HW.out.setCell (p := ⟨W.heap.size + 1 + 1, 1, none⟩) (by show _ ≤ W.heap.size + 1 + 1; omega) (.string ⟨#[55]⟩))
        clear q o1 f1
        generalize wr.setCell ⟨W.heap.size + 1 + 1, 1, none⟩ (.string ⟨#[55]⟩) = v9 at *
        refine (HP4.out _).mono ?_
        rintro e w9 ⟨rfl, rfl⟩
        rcases Nat.eq_zero_or_pos N0 with hz0 | hz0
        · have iz0 : ((intB N0).toList == [48]) = true := by rw [isZ]; exact decide_eq_true (by omega)
          have o0 := (cell_of_row w9 _ 0 _ _ _ HL.out.o).trans (by rfl : _ = some (.string (intB N0)))
          have o1 := (cell_of_row w9 _ 1 _ _ _ HL.out.o).trans (by rfl : _ = some (.string ⟨#[55]⟩))
          have f0 := frozen_of_row w9 _ 0 _ _ HL.out.o
          by_cases hs : sg = 0
          · have hs2 : (sg == 0) = true := beq_iff_eq.2 hs
            clear hz0
            obtain ⟨q, hq, hmk⟩ := long_make (t := intB N0) (u := ⟨#[55]⟩) (a := (N0 : Int)) (N := 7) ⟨rfl, HN0.out⟩ seven_text (by decide) (by decide)
            have HMK := Lib.hid hmk
            have HQ := Lib.hid hq
            clear hmk hq
            go_wp2_with fail
            refine (HMK.out _).mono ?_
            rintro e u ⟨rfl, hB⟩
            have HW := Lib.hid (belowVia hB HW.out)
            have HL := Lib.hid (HL.out.via hB)
            clear hB
            have hr := (HL.out.via (alloc_below u (.cells #[.string (intB q.num), .string (intB q.den)] 23))).r
            have HR : Hid (ResBox (W.heap.size + 1) (u.alloc (.cells #[.string (intB q.num), .string (intB q.den)] 23))) := ⟨hr⟩
            have HW := Lib.hid (belowVia (alloc_below u (.cells #[.string (intB q.num), .string (intB q.den)] 23)) HW.out)
            obtain ⟨r1, g1⟩ := cell2 hr
            obtain ⟨r2, g2⟩ := cell2b hr
            clear hr
            go_wp2_with fail
            refine bodyPost_ret (results_q rfl _ _ (W.heap.size + 1) _ _ rfl (HR.out.set _ _)) rfl ?_
            exact ⟨⟨q, rfl, HQ.out⟩, below_set2 HW.out (by omega) _ _⟩
          · have hs2 : (sg == 0) = false := beq_eq_false_iff_ne.2 hs
            clear hz0
            obtain ⟨q, hq, hmk⟩ := long_make (t := intB N0) (u := ⟨#[55]⟩) (a := (N0 : Int)) (N := 7) ⟨rfl, HN0.out⟩ seven_text (by decide) (by decide)
            have HMK := Lib.hid hmk
            have HQ := Lib.hid hq
            clear hmk hq
            go_wp2_with fail
            refine (HMK.out _).mono ?_
            rintro e u ⟨rfl, hB⟩
            have HW := Lib.hid (belowVia hB HW.out)
            have HL := Lib.hid (HL.out.via hB)
            clear hB
            have hr := (HL.out.via (alloc_below u (.cells #[.string (intB q.num), .string (intB q.den)] 23))).r
            have HR : Hid (ResBox (W.heap.size + 1) (u.alloc (.cells #[.string (intB q.num), .string (intB q.den)] 23))) := ⟨hr⟩
            have HW := Lib.hid (belowVia (alloc_below u (.cells #[.string (intB q.num), .string (intB q.den)] 23)) HW.out)
            obtain ⟨r1, g1⟩ := cell2 hr
            obtain ⟨r2, g2⟩ := cell2b hr
            clear hr
            go_wp2_with fail
            refine bodyPost_ret (results_q rfl _ _ (W.heap.size + 1) _ _ rfl (HR.out.set _ _)) rfl ?_
            exact ⟨⟨q, rfl, HQ.out⟩, below_set2 HW.out (by omega) _ _⟩
        · have iz0 : ((intB N0).toList == [48]) = false := by rw [isZ]; exact decide_eq_false (by omega)
          have o0 := (cell_of_row w9 _ 0 _ _ _ HL.out.o).trans (by rfl : _ = some (.string (intB N0)))
          have o1 := (cell_of_row w9 _ 1 _ _ _ HL.out.o).trans (by rfl : _ = some (.string ⟨#[55]⟩))
          have f0 := frozen_of_row w9 _ 0 _ _ HL.out.o
          by_cases hs : sg = 0
          · have hs2 : (sg == 0) = true := beq_iff_eq.2 hs
            have HNEG := Lib.hid (neg_text hz0)
            have hsz : ((intB N0).size : Int) ≤ 1001 := by have := intB_small (fits250 (fits_pow HN0.out (by decide))); omega
            clear hz0
            obtain ⟨q, hq, hmk⟩ := long_make (t := ⟨#[45]⟩ ++ intB N0) (u := ⟨#[55]⟩) (a := -(N0 : Int)) (N := 7) ⟨HNEG.out, HNM.out⟩ seven_text (by decide) (by decide)
            have HMK := Lib.hid hmk
            have HQ := Lib.hid hq
            clear hmk hq
            go_wp2_with fail
            have HL := Lib.hid (HL.out.set0 (⟨#[45]⟩ ++ intB N0))
            have HW := Lib.hid (HW.out.setCell (p := ⟨W.heap.size + 1 + 1, 0, none⟩) (by show _ ≤ W.heap.size + 1 + 1; omega) (.string (⟨#[45]⟩ ++ intB N0)))
            clear o0 o1 f0
            generalize w9.setCell ⟨W.heap.size + 1 + 1, 0, none⟩ (.string (⟨#[45]⟩ ++ intB N0)) = v9 at *
            refine (HMK.out _).mono ?_
            rintro e u ⟨rfl, hB⟩
            have HW := Lib.hid (belowVia hB HW.out)
            have HL := Lib.hid (HL.out.via hB)
            clear hB
            have hr := (HL.out.via (alloc_below u (.cells #[.string (intB q.num), .string (intB q.den)] 23))).r
            have HR : Hid (ResBox (W.heap.size + 1) (u.alloc (.cells #[.string (intB q.num), .string (intB q.den)] 23))) := ⟨hr⟩
            have HW := Lib.hid (belowVia (alloc_below u (.cells #[.string (intB q.num), .string (intB q.den)] 23)) HW.out)
            obtain ⟨r1, g1⟩ := cell2 hr
            obtain ⟨r2, g2⟩ := cell2b hr
            clear hr
            go_wp2_with fail
            refine bodyPost_ret (results_q rfl _ _ (W.heap.size + 1) _ _ rfl (HR.out.set _ _)) rfl ?_
            exact ⟨⟨q, rfl, HQ.out⟩, below_set2 HW.out (by omega) _ _⟩
          · have hs2 : (sg == 0) = false := beq_eq_false_iff_ne.2 hs
            clear hz0
            obtain ⟨q, hq, hmk⟩ := long_make (t := intB N0) (u := ⟨#[55]⟩) (a := (N0 : Int)) (N := 7) ⟨rfl, HN0.out⟩ seven_text (by decide) (by decide)
            have HMK := Lib.hid hmk
            have HQ := Lib.hid hq
            clear hmk hq
            go_wp2_with fail
            refine (HMK.out _).mono ?_
            rintro e u ⟨rfl, hB⟩
            have HW := Lib.hid (belowVia hB HW.out)
            have HL := Lib.hid (HL.out.via hB)
            clear hB
            have hr := (HL.out.via (alloc_below u (.cells #[.string (intB q.num), .string (intB q.den)] 23))).r
            have HR : Hid (ResBox (W.heap.size + 1) (u.alloc (.cells #[.string (intB q.num), .string (intB q.den)] 23))) := ⟨hr⟩
            have HW := Lib.hid (belowVia (alloc_below u (.cells #[.string (intB q.num), .string (intB q.den)] 23)) HW.out)
            obtain ⟨r1, g1⟩ := cell2 hr
            obtain ⟨r2, g2⟩ := cell2b hr
            clear hr
            go_wp2_with fail
            refine bodyPost_ret (results_q rfl _ _ (W.heap.size + 1) _ _ rfl (HR.out.set _ _)) rfl ?_
            exact ⟨⟨q, rfl, HQ.out⟩, below_set2 HW.out (by omega) _ _⟩
      · have iz1 : ((intB N1).toList == [48]) = false := by rw [isZ]; exact decide_eq_false (by omega)
        have HZ1 := Lib.hid hz1
        clear hz1
        go_wp2_with fail
        clear q o1 f1
        refine (HP4.out _).mono ?_
        rintro e w9 ⟨rfl, rfl⟩
        rcases Nat.eq_zero_or_pos N0 with hz0 | hz0
        · have iz0 : ((intB N0).toList == [48]) = true := by rw [isZ]; exact decide_eq_true (by omega)
          have o0 := (cell_of_row w9 _ 0 _ _ _ HL.out.o).trans (by rfl : _ = some (.string (intB N0)))
          have o1 := (cell_of_row w9 _ 1 _ _ _ HL.out.o).trans (by rfl : _ = some (.string (intB N1)))
          have f0 := frozen_of_row w9 _ 0 _ _ HL.out.o
          by_cases hs : sg = 0
          · have hs2 : (sg == 0) = true := beq_iff_eq.2 hs
            clear hz0
            obtain ⟨q, hq, hmk⟩ := long_make (t := intB N0) (u := (intB N1)) (a := (N0 : Int)) (N := N1) ⟨rfl, HN0.out⟩ rfl HN1.out HZ1.out
            have HMK := Lib.hid hmk
            have HQ := Lib.hid hq
            clear hmk hq
            go_wp2_with fail
            refine (HMK.out _).mono ?_
            rintro e u ⟨rfl, hB⟩
            have HW := Lib.hid (belowVia hB HW.out)
            have HL := Lib.hid (HL.out.via hB)
            clear hB
            have hr := (HL.out.via (alloc_below u (.cells #[.string (intB q.num), .string (intB q.den)] 23))).r
            have HR : Hid (ResBox (W.heap.size + 1) (u.alloc (.cells #[.string (intB q.num), .string (intB q.den)] 23))) := ⟨hr⟩
            have HW := Lib.hid (belowVia (alloc_below u (.cells #[.string (intB q.num), .string (intB q.den)] 23)) HW.out)
            obtain ⟨r1, g1⟩ := cell2 hr
            obtain ⟨r2, g2⟩ := cell2b hr
            clear hr
            go_wp2_with fail
            refine bodyPost_ret (results_q rfl _ _ (W.heap.size + 1) _ _ rfl (HR.out.set _ _)) rfl ?_
            exact ⟨⟨q, rfl, HQ.out⟩, below_set2 HW.out (by omega) _ _⟩
          · have hs2 : (sg == 0) = false := beq_eq_false_iff_ne.2 hs
            clear hz0
            obtain ⟨q, hq, hmk⟩ := long_make (t := intB N0) (u := (intB N1)) (a := (N0 : Int)) (N := N1) ⟨rfl, HN0.out⟩ rfl HN1.out HZ1.out
            have HMK := Lib.hid hmk
            have HQ := Lib.hid hq
            clear hmk hq
            go_wp2_with fail
            refine (HMK.out _).mono ?_
            rintro e u ⟨rfl, hB⟩
            have HW := Lib.hid (belowVia hB HW.out)
            have HL := Lib.hid (HL.out.via hB)
            clear hB
            have hr := (HL.out.via (alloc_below u (.cells #[.string (intB q.num), .string (intB q.den)] 23))).r
            have HR : Hid (ResBox (W.heap.size + 1) (u.alloc (.cells #[.string (intB q.num), .string (intB q.den)] 23))) := ⟨hr⟩
            have HW := Lib.hid (belowVia (alloc_below u (.cells #[.string (intB q.num), .string (intB q.den)] 23)) HW.out)
            obtain ⟨r1, g1⟩ := cell2 hr
            obtain ⟨r2, g2⟩ := cell2b hr
            clear hr
            go_wp2_with fail
            refine bodyPost_ret (results_q rfl _ _ (W.heap.size + 1) _ _ rfl (HR.out.set _ _)) rfl ?_
            exact ⟨⟨q, rfl, HQ.out⟩, below_set2 HW.out (by omega) _ _⟩
        · have iz0 : ((intB N0).toList == [48]) = false := by rw [isZ]; exact decide_eq_false (by omega)
          have o0 := (cell_of_row w9 _ 0 _ _ _ HL.out.o).trans (by rfl : _ = some (.string (intB N0)))
          have o1 := (cell_of_row w9 _ 1 _ _ _ HL.out.o).trans (by rfl : _ = some (.string (intB N1)))
          have f0 := frozen_of_row w9 _ 0 _ _ HL.out.o
          by_cases hs : sg = 0
          · have hs2 : (sg == 0) = true := beq_iff_eq.2 hs
            have HNEG := Lib.hid (neg_text hz0)
            have hsz : ((intB N0).size : Int) ≤ 1001 := by have := intB_small (fits250 (fits_pow HN0.out (by decide))); omega
            clear hz0
            obtain ⟨q, hq, hmk⟩ := long_make (t := ⟨#[45]⟩ ++ intB N0) (u := (intB N1)) (a := -(N0 : Int)) (N := N1) ⟨HNEG.out, HNM.out⟩ rfl HN1.out HZ1.out
            have HMK := Lib.hid hmk
            have HQ := Lib.hid hq
            clear hmk hq
            go_wp2_with fail
            have HL := Lib.hid (HL.out.set0 (⟨#[45]⟩ ++ intB N0))
            have HW := Lib.hid (HW.out.setCell (p := ⟨W.heap.size + 1 + 1, 0, none⟩) (by show _ ≤ W.heap.size + 1 + 1; omega) (.string (⟨#[45]⟩ ++ intB N0)))
            clear o0 o1 f0
            generalize w9.setCell ⟨W.heap.size + 1 + 1, 0, none⟩ (.string (⟨#[45]⟩ ++ intB N0)) = v9 at *
            refine (HMK.out _).mono ?_
            rintro e u ⟨rfl, hB⟩
            have HW := Lib.hid (belowVia hB HW.out)
            have HL := Lib.hid (HL.out.via hB)
            clear hB
            have hr := (HL.out.via (alloc_below u (.cells #[.string (intB q.num), .string (intB q.den)] 23))).r
            have HR : Hid (ResBox (W.heap.size + 1) (u.alloc (.cells #[.string (intB q.num), .string (intB q.den)] 23))) := ⟨hr⟩
            have HW := Lib.hid (belowVia (alloc_below u (.cells #[.string (intB q.num), .string (intB q.den)] 23)) HW.out)
            obtain ⟨r1, g1⟩ := cell2 hr
            obtain ⟨r2, g2⟩ := cell2b hr
            clear hr
            go_wp2_with fail
            refine bodyPost_ret (results_q rfl _ _ (W.heap.size + 1) _ _ rfl (HR.out.set _ _)) rfl ?_
            exact ⟨⟨q, rfl, HQ.out⟩, below_set2 HW.out (by omega) _ _⟩
          · have hs2 : (sg == 0) = false := beq_eq_false_iff_ne.2 hs
            clear hz0
            obtain ⟨q, hq, hmk⟩ := long_make (t := intB N0) (u := (intB N1)) (a := (N0 : Int)) (N := N1) ⟨rfl, HN0.out⟩ rfl HN1.out HZ1.out
            have HMK := Lib.hid hmk
            have HQ := Lib.hid hq
            clear hmk hq
            go_wp2_with fail
            refine (HMK.out _).mono ?_
            rintro e u ⟨rfl, hB⟩
            have HW := Lib.hid (belowVia hB HW.out)
            have HL := Lib.hid (HL.out.via hB)
            clear hB
            have hr := (HL.out.via (alloc_below u (.cells #[.string (intB q.num), .string (intB q.den)] 23))).r
            have HR : Hid (ResBox (W.heap.size + 1) (u.alloc (.cells #[.string (intB q.num), .string (intB q.den)] 23))) := ⟨hr⟩
            have HW := Lib.hid (belowVia (alloc_below u (.cells #[.string (intB q.num), .string (intB q.den)] 23)) HW.out)
            obtain ⟨r1, g1⟩ := cell2 hr
            obtain ⟨r2, g2⟩ := cell2b hr
            clear hr
            go_wp2_with fail
            refine bodyPost_ret (results_q rfl _ _ (W.heap.size + 1) _ _ rfl (HR.out.set _ _)) rfl ?_
            exact ⟨⟨q, rfl, HQ.out⟩, below_set2 HW.out (by omega) _ _⟩
end Go.Proofs.YtelckldddflmmaaGreatDoor
/- LawKit: For every law of a seat: what stands between the walk of its body and the statement about it. -/
namespace Go.Proofs.YtelckldddflmmaaGreatDoor
open Go.ChangeShapes Go.WideShapes Go.ChangeAt Go.RowKit

theorem laidOut : laidOutB Tryz.prog = true := by kernel_rfl
theorem ownKnobNone : ownKnob Tryz.prog.godebug = none := by kernel_rfl

/-- Arguments read behind the call as they read before, if nothing that lay has turned. -/
theorem all_below {H : Type} {enc : TypeId × Value → H} {W W' : World} (hb : Below W.heap.size W W') : ∀ {ts : List TypeId} {vs : List Value} {ds : List (DataW H)} {ps : List MemPlace},
    (∀ t ∈ ts, Tryz.prog.readableRec t = true ∧ t < Tryz.prog.types.size) → DataW.TrodAll enc Tryz.prog W 0 (fun _ => true) true ts vs ds ps → (∀ x ∈ ps, x.block < W.heap.size) →
    DataW.TrodAll enc Tryz.prog W' 0 (fun b => decide (b < W.heap.size)) true ts vs ds ps
  | [], _, _, _, _, h, _ => by obtain ⟨rfl, rfl, rfl⟩ := trodAll_nil h; exact trodAll_mk0
  | t :: ts, _, _, _, ht, h, hlt => by
    obtain ⟨v, vs', d, ds', p, q, rfl, rfl, rfl, hd, hrest⟩ := trodAll_cons h
    exact trodAll_cons_mk (Below.trod laidOut (ht t (by simp)).1 (ht t (by simp)).2 hd hb (fun x hx => hlt x (by simp [hx]))) (all_below hb (fun u hu => ht u (by simp [hu])) hrest (fun x hx => hlt x (by simp [hx])))

/-- A law that answers true and leaves alone what lay. -/
theorem law_post {H : Type} {enc : TypeId × Value → H} {f : Func} {s : ChangeSpec} {W W' : World} {args : Array Value} {ds gs : List (DataW H)} {before : List MemPlace}
    (hread : f.params.toList.all (fun t => Tryz.prog.readableRec t && decide (t < Tryz.prog.types.size)) = true) (hrt : f.resultTypes = #[4]) (hvars : s.vars = [])
    (hs : s.fn H ds = { results := [.lit (.bool true)], args := ds })
    (hW : DataW.Whole enc Tryz.prog f.params.toList s.vars false W args.toList ds gs before) (hb : Below W.heap.size W W') :
    s.post enc Tryz.prog f false true false false W args (.bool true) W' := by
  have hW0 := hW
  have hlt : ∀ p ∈ before, p.block < W.heap.size := fun p hp => hW.lt p hp
  obtain ⟨p, q, hA, hV, rfl, hz, hn⟩ := hW
  rw [hvars] at hV
  obtain ⟨rfl, rfl⟩ := trodVars_none hV
  have hr : ∀ t ∈ f.params.toList, Tryz.prog.readableRec t = true ∧ t < Tryz.prog.types.size := fun t ht => by
    have := List.all_eq_true.1 hread t ht
    simpa using this
  refine ⟨ds, [], p ++ [], [], p, [], hW0, ?_, ?_, ?_, ?_, fun h => by cases h⟩
  · rw [List.append_nil, hs, hrt]
    exact trodAll_mk1 (shut_bool Tryz.underlying4 _)
  · rw [List.append_nil, hs]
    exact all_below hb hr hA (fun x hx => hlt x (by simp [hx]))
  · rw [List.append_nil, hs, hvars]
    rfl
  · exact World.keptBut_mono (fun p hp => ⟨hp, .inr (.inl (by simpa using hp))⟩) (hb.frame _)

/-- No parameter wants a stand-in. -/
theorem no_stand_in {fn : Func} (h : fn.params.all (fun t => !Tryz.prog.wantsStandIn t) = true) (j : Nat) (t : TypeId) (ht : fn.params[j]? = some t) : Tryz.prog.wantsStandIn t = false := by
  have := Array.all_eq_true'.1 h t (Array.mem_of_getElem? ht)
  simpa using this
end Go.Proofs.YtelckldddflmmaaGreatDoor
