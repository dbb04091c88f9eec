/- IntegerCommon's body. -/
import Derived.Test.YtggkbeppfpgkaaaDoorIntRoot
namespace Go.Proofs.YtggkbeppfpgkaaaDoor
open Go.RowKit Putlog

theorem c_gcd (a b r : Int) (w : World) (ha : Fits a) (hb : Fits b) (e : ((Int.gcd a b : Nat) : Int) = r) :
    Calls Tryd.prog 21 #[.string (intB a), .string (intB b)] w fun e w' => e = .returned (.tuple #[.string (intB r), .int .i64 0]) ∧ Below w.heap.size w w' := by
  have h := gcd_ok a b ha hb w
  rw [e] at h
  exact h
theorem gcd_abs {x y : Int} {k : Nat} (hx : x.natAbs < 10 ^ k) (hy : y.natAbs < 10 ^ k) : Int.gcd x y < 10 ^ k := by
  show Nat.gcd x.natAbs y.natAbs < 10 ^ k
  rcases Nat.eq_zero_or_pos x.natAbs with h | h
  · rw [h, Nat.gcd_zero_left]; exact hy
  · exact Nat.lt_of_le_of_lt (Nat.le_of_dvd h (Nat.gcd_dvd_left _ _)) hx
theorem gcd_coprime {x y : Int} (h : 0 < Int.gcd x y) : Int.gcd (x / (Int.gcd x y : Nat)) (y / (Int.gcd x y : Nat)) = 1 := by
  have h1 := Int.gcd_mul_right (x / (Int.gcd x y : Nat)) ((Int.gcd x y : Nat) : Int) (y / (Int.gcd x y : Nat))
  rw [Int.ediv_mul_cancel (Int.gcd_dvd_left _ _), Int.ediv_mul_cancel (Int.gcd_dvd_right _ _), Int.natAbs_natCast] at h1
  have h2 : Int.gcd (x / (Int.gcd x y : Nat)) (y / (Int.gcd x y : Nat)) * Int.gcd x y = 1 * Int.gcd x y := by omega
  exact Nat.eq_of_mul_eq_mul_right h h2
theorem isZero_yes : ((intB 0).toList == [48]) = true := by rw [intB_zero]; decide +kernel
set_option maxRecDepth 100000 in
set_option maxHeartbeats 4000000 in
theorem Common_calls (a b c : ByteArray) (w : World) (ha : (a.size : Int) ≤ 9223372036854775807) (hb : (b.size : Int) ≤ 9223372036854775807) (hc : (c.size : Int) ≤ 9223372036854775807) :
    Calls Tryd.prog 7 #[.string a, .string b, .string c] w fun e w' => e = .returned (.bool true) ∧ Below w.heap.size w w' := by
  go_enter Tryd.func7, Tryd.ntmps7
  go_wp2_with fail
  refine (sane_any w).mono ?_
  rintro e w1 ⟨rfl, hB⟩
  have HB1 := Lib.hid hB
  clear hB
  go_wp2_with fail
  refine (rmade_any a 40 w1 ha (by omega)).mono ?_
  rintro e w2 ⟨⟨x, rfl, hx⟩, hB⟩
  have HB2 := Lib.hid (belowVia hB HB1.out)
  clear hB HB1
  go_wp2_with fail
  refine (rmade_any b 40 w2 hb (by omega)).mono ?_
  rintro e w3 ⟨⟨y, rfl, hy⟩, hB⟩
  have HB3 := Lib.hid (belowVia hB HB2.out)
  clear hB HB2
  go_wp2_with fail
  refine (rmade_any c 40 w3 hc (by omega)).mono ?_
  rintro e w4 ⟨⟨z, rfl, hz⟩, hB⟩
  have HB4 := Lib.hid (belowVia hB HB3.out)
  clear hB HB3 ha hb hc
  obtain ⟨g, eg⟩ : ∃ g : Int, ((Int.gcd x y : Nat) : Int) = g := ⟨_, rfl⟩
  have eg2 : ((Int.gcd y x : Nat) : Int) = g := by rw [Int.gcd_comm]; exact eg
  have hgb : g.natAbs < 10 ^ 40 := by rw [← eg, Int.natAbs_natCast]; exact gcd_abs hx hy
  have Fx := Lib.hid (fits_of hx (by decide))
  have Fy := Lib.hid (fits_of hy (by decide))
  have Fz := Lib.hid (fits_of hz (by decide))
  have Fg := Lib.hid (fits_of hgb (by decide))
  have F0 : Hid (Fits 0) := (by decide : Fits 0)
  have EG := Lib.hid eg
  have EG2 := Lib.hid eg2
  by_cases hxy : x = 0 ∧ y = 0
  · obtain ⟨hx0, hy0⟩ := hxy
    have hg0 : g = 0 := by rw [← eg, hx0, hy0]; rfl
    have zx : ((intB x).toList == [48]) = true := by rw [hx0]; exact isZero_yes
    have zy : ((intB y).toList == [48]) = true := by rw [hy0]; exact isZero_yes
    have zg : ((intB g).toList == [48]) = true := by rw [hg0]; exact isZero_yes
    have K1 := Lib.hid (show cmpI g 0 = 0 by rw [hg0]; decide)
    clear hx hy hz hgb eg eg2 hx0 hy0 hg0
    go_wp2_with fail
    have hcall := c_gcd x y g w4 Fx.out Fy.out EG.out
    refine hcall.mono ?_
    clear hcall
    rintro e w5 ⟨rfl, hB⟩
    have HB5 := Lib.hid (belowVia hB HB4.out)
    clear hB HB4
    go_wp2_with fail
    have hcall := c_gcd y x g w5 Fy.out Fx.out EG2.out
    refine hcall.mono ?_
    clear hcall
    rintro e w6 ⟨rfl, hB⟩
    have HB6 := Lib.hid (belowVia hB HB5.out)
    clear hB HB5
    go_wp2_with fail
    have hcall := c_cmp api g 0 0 w6 Fg.out F0.out K1.out
    rw [intB_zero] at hcall
    refine hcall.mono ?_
    clear hcall
    rintro e w7 ⟨rfl, hB⟩
    have HB7 := Lib.hid (belowVia hB HB6.out)
    clear hB HB6
    go_wp2_with fail
    go_ret
    exact ⟨rfl, HB7.out⟩
  · have hgp : 0 < Int.gcd x y := Nat.pos_of_ne_zero fun h => hxy (by rw [Int.gcd_eq_zero_iff] at h; exact h)
    have hg0 : g ≠ 0 := by omega
    have hpx : x % g = 0 := by rw [← eg]; exact Int.emod_eq_zero_of_dvd (Int.gcd_dvd_left _ _)
    have hpy : y % g = 0 := by rw [← eg]; exact Int.emod_eq_zero_of_dvd (Int.gcd_dvd_right _ _)
    obtain ⟨p, ep⟩ : ∃ p, x / g = p := ⟨_, rfl⟩
    obtain ⟨q, eq⟩ : ∃ q, y / g = q := ⟨_, rfl⟩
    have hco : ((Int.gcd p q : Nat) : Int) = 1 := by rw [← ep, ← eq, ← eg, gcd_coprime hgp]; rfl
    have hp : p.natAbs < 10 ^ 40 := by rw [← ep]; exact Nat.lt_of_le_of_lt (Int.natAbs_ediv_le_natAbs x g) hx
    have hq : q.natAbs < 10 ^ 40 := by rw [← eq]; exact Nat.lt_of_le_of_lt (Int.natAbs_ediv_le_natAbs y g) hy
    obtain ⟨u, eu⟩ : ∃ u, x * z = u := ⟨_, rfl⟩
    obtain ⟨v, ev⟩ : ∃ v, y * z = v := ⟨_, rfl⟩
    have hu : u.natAbs < 10 ^ 80 := by rw [← eu]; exact abs_mul hx hz
    have hv : v.natAbs < 10 ^ 80 := by rw [← ev]; exact abs_mul hy hz
    obtain ⟨t, et⟩ : ∃ t : Int, ((Int.gcd u v : Nat) : Int) = t := ⟨_, rfl⟩
    obtain ⟨s, es⟩ : ∃ s, g * z = s := ⟨_, rfl⟩
    have hs : s.natAbs < 10 ^ 80 := by rw [← es]; exact abs_mul hgb hz
    have hst : t = s.natAbs := by
      rw [← et, ← eu, ← ev, Int.gcd_mul_right, ← es, Int.natAbs_mul, ← eg, Int.natAbs_natCast]
    have ht : t.natAbs < 10 ^ 80 := by rw [hst, Int.natAbs_natCast]; exact hs
    have Fp := Lib.hid (fits_of hp (by decide))
    have Fq := Lib.hid (fits_of hq (by decide))
    have Fu := Lib.hid (fits_of hu (by decide))
    have Fv := Lib.hid (fits_of hv (by decide))
    have Ft := Lib.hid (fits_of ht (by decide))
    have Fs := Lib.hid (fits_of hs (by decide))
    have K1 := Lib.hid (show cmpI g 0 = 1 by unfold cmpI; rw [if_neg (by omega), if_pos (by omega)])
    have G0 := Lib.hid hg0
    have EP := Lib.hid ep
    have EQ := Lib.hid eq
    have PX := Lib.hid hpx
    have PY := Lib.hid hpy
    have CO := Lib.hid hco
    have EU := Lib.hid eu
    have EV := Lib.hid ev
    have ET := Lib.hid et
    have ES := Lib.hid es
    have ST := Lib.hid hst
    have zz : ((intB x).toList == [48]) = false ∨ ((intB x).toList == [48]) = true ∧ ((intB y).toList == [48]) = false := by
      by_cases h : x = 0
      · right
        exact ⟨by rw [h]; exact isZero_yes, isZero_no (fun k => hxy ⟨h, k⟩)⟩
      · left; exact isZero_no h
    clear hx hy hz hgb eg eg2 hxy hgp hg0 hpx hpy ep eq hco hp hq eu ev hu hv et es hs hst ht
    rcases (show s < 0 ∨ 0 ≤ s by omega) with hs0 | hs0
    · have K2 := Lib.hid (show cmpI s 0 = -1 by unfold cmpI; rw [if_pos (by omega)])
      have NS := Lib.hid (show 0 - s = t by have := ST.out; omega)
      clear hs0
      rcases zz with zx | ⟨zx, zy⟩
      · skip
        go_wp2_with fail
        have hcall := c_gcd x y g w4 Fx.out Fy.out EG.out
        refine hcall.mono ?_
        clear hcall
        rintro e w5 ⟨rfl, hB⟩
        have HB5 := Lib.hid (belowVia hB HB4.out)
        clear hB HB4
        go_wp2_with fail
        have hcall := c_gcd y x g w5 Fy.out Fx.out EG2.out
        refine hcall.mono ?_
        clear hcall
        rintro e w6 ⟨rfl, hB⟩
        have HB6 := Lib.hid (belowVia hB HB5.out)
        clear hB HB5
        go_wp2_with fail
        have hcall := c_cmp api g 0 1 w6 Fg.out F0.out K1.out
        rw [intB_zero] at hcall
        refine hcall.mono ?_
        clear hcall
        rintro e w7 ⟨rfl, hB⟩
        have HB7 := Lib.hid (belowVia hB HB6.out)
        clear hB HB6
        go_wp2_with fail
        have hcall := c_div api x g p 0 w7 Fx.out Fg.out G0.out EP.out PX.out
        rw [intB_zero] at hcall
        refine hcall.mono ?_
        clear hcall
        rintro e w8 ⟨rfl, hB⟩
        have HB8 := Lib.hid (belowVia hB HB7.out)
        clear hB HB7
        go_wp2_with fail
        have hcall := c_div api y g q 0 w8 Fy.out Fg.out G0.out EQ.out PY.out
        rw [intB_zero] at hcall
        refine hcall.mono ?_
        clear hcall
        rintro e w9 ⟨rfl, hB⟩
        have HB9 := Lib.hid (belowVia hB HB8.out)
        clear hB HB8
        go_wp2_with fail
        have hcall := c_gcd p q 1 w9 Fp.out Fq.out CO.out
        rw [intB_one] at hcall
        refine hcall.mono ?_
        clear hcall
        rintro e w10 ⟨rfl, hB⟩
        have HB10 := Lib.hid (belowVia hB HB9.out)
        clear hB HB9
        go_wp2_with fail
        have hcall := c_mul api x z u w10 Fx.out Fz.out Fu.out EU.out
        refine hcall.mono ?_
        clear hcall
        rintro e w11 ⟨rfl, hB⟩
        have HB11 := Lib.hid (belowVia hB HB10.out)
        clear hB HB10
        go_wp2_with fail
        have hcall := c_mul api y z v w11 Fy.out Fz.out Fv.out EV.out
        refine hcall.mono ?_
        clear hcall
        rintro e w12 ⟨rfl, hB⟩
        have HB12 := Lib.hid (belowVia hB HB11.out)
        clear hB HB11
        go_wp2_with fail
        have hcall := c_gcd u v t w12 Fu.out Fv.out ET.out
        refine hcall.mono ?_
        clear hcall
        rintro e w13 ⟨rfl, hB⟩
        have HB13 := Lib.hid (belowVia hB HB12.out)
        clear hB HB12
        go_wp2_with fail
        have hcall := c_mul api g z s w13 Fg.out Fz.out Fs.out ES.out
        refine hcall.mono ?_
        clear hcall
        rintro e w14 ⟨rfl, hB⟩
        have HB14 := Lib.hid (belowVia hB HB13.out)
        clear hB HB13
        go_wp2_with fail
        have hcall := c_cmp api s 0 _ w14 Fs.out F0.out K2.out
        rw [intB_zero] at hcall
        refine hcall.mono ?_
        clear hcall
        rintro e w15 ⟨rfl, hB⟩
        have HB15 := Lib.hid (belowVia hB HB14.out)
        clear hB HB14
        go_wp2_with fail
        have hcall := c_sub api 0 s t w15 F0.out Fs.out Ft.out NS.out
        rw [intB_zero] at hcall
        refine hcall.mono ?_
        clear hcall
        rintro e w16 ⟨rfl, hB⟩
        have HB16 := Lib.hid (belowVia hB HB15.out)
        clear hB HB15
        go_wp2_with fail
        go_ret
        exact ⟨rfl, HB16.out⟩
      · skip
        go_wp2_with fail
        have hcall := c_gcd x y g w4 Fx.out Fy.out EG.out
        refine hcall.mono ?_
        clear hcall
        rintro e w5 ⟨rfl, hB⟩
        have HB5 := Lib.hid (belowVia hB HB4.out)
        clear hB HB4
        go_wp2_with fail
        have hcall := c_gcd y x g w5 Fy.out Fx.out EG2.out
        refine hcall.mono ?_
        clear hcall
        rintro e w6 ⟨rfl, hB⟩
        have HB6 := Lib.hid (belowVia hB HB5.out)
        clear hB HB5
        go_wp2_with fail
        have hcall := c_cmp api g 0 1 w6 Fg.out F0.out K1.out
        rw [intB_zero] at hcall
        refine hcall.mono ?_
        clear hcall
        rintro e w7 ⟨rfl, hB⟩
        have HB7 := Lib.hid (belowVia hB HB6.out)
        clear hB HB6
        go_wp2_with fail
        have hcall := c_div api x g p 0 w7 Fx.out Fg.out G0.out EP.out PX.out
        rw [intB_zero] at hcall
        refine hcall.mono ?_
        clear hcall
        rintro e w8 ⟨rfl, hB⟩
        have HB8 := Lib.hid (belowVia hB HB7.out)
        clear hB HB7
        go_wp2_with fail
        have hcall := c_div api y g q 0 w8 Fy.out Fg.out G0.out EQ.out PY.out
        rw [intB_zero] at hcall
        refine hcall.mono ?_
        clear hcall
        rintro e w9 ⟨rfl, hB⟩
        have HB9 := Lib.hid (belowVia hB HB8.out)
        clear hB HB8
        go_wp2_with fail
        have hcall := c_gcd p q 1 w9 Fp.out Fq.out CO.out
        rw [intB_one] at hcall
        refine hcall.mono ?_
        clear hcall
        rintro e w10 ⟨rfl, hB⟩
        have HB10 := Lib.hid (belowVia hB HB9.out)
        clear hB HB9
        go_wp2_with fail
        have hcall := c_mul api x z u w10 Fx.out Fz.out Fu.out EU.out
        refine hcall.mono ?_
        clear hcall
        rintro e w11 ⟨rfl, hB⟩
        have HB11 := Lib.hid (belowVia hB HB10.out)
        clear hB HB10
        go_wp2_with fail
        have hcall := c_mul api y z v w11 Fy.out Fz.out Fv.out EV.out
        refine hcall.mono ?_
        clear hcall
        rintro e w12 ⟨rfl, hB⟩
        have HB12 := Lib.hid (belowVia hB HB11.out)
        clear hB HB11
        go_wp2_with fail
        have hcall := c_gcd u v t w12 Fu.out Fv.out ET.out
        refine hcall.mono ?_
        clear hcall
        rintro e w13 ⟨rfl, hB⟩
        have HB13 := Lib.hid (belowVia hB HB12.out)
        clear hB HB12
        go_wp2_with fail
        have hcall := c_mul api g z s w13 Fg.out Fz.out Fs.out ES.out
        refine hcall.mono ?_
        clear hcall
        rintro e w14 ⟨rfl, hB⟩
        have HB14 := Lib.hid (belowVia hB HB13.out)
        clear hB HB13
        go_wp2_with fail
        have hcall := c_cmp api s 0 _ w14 Fs.out F0.out K2.out
        rw [intB_zero] at hcall
        refine hcall.mono ?_
        clear hcall
        rintro e w15 ⟨rfl, hB⟩
        have HB15 := Lib.hid (belowVia hB HB14.out)
        clear hB HB14
        go_wp2_with fail
        have hcall := c_sub api 0 s t w15 F0.out Fs.out Ft.out NS.out
        rw [intB_zero] at hcall
        refine hcall.mono ?_
        clear hcall
        rintro e w16 ⟨rfl, hB⟩
        have HB16 := Lib.hid (belowVia hB HB15.out)
        clear hB HB15
        go_wp2_with fail
        go_ret
        exact ⟨rfl, HB16.out⟩
    · have hst : s = t := by have := ST.out; omega
      obtain ⟨k, ek⟩ : ∃ k, cmpI s 0 = k := ⟨_, rfl⟩
      have hk : k = 0 ∨ k = 1 := by rw [← ek]; unfold cmpI; rw [if_neg (by omega)]; split <;> omega
      have K2 := Lib.hid ek
      subst hst
      clear hs0 ek
      rcases hk with rfl | rfl <;> rcases zz with zx | ⟨zx, zy⟩
      · skip
        go_wp2_with fail
        have hcall := c_gcd x y g w4 Fx.out Fy.out EG.out
        refine hcall.mono ?_
        clear hcall
        rintro e w5 ⟨rfl, hB⟩
        have HB5 := Lib.hid (belowVia hB HB4.out)
        clear hB HB4
        go_wp2_with fail
        have hcall := c_gcd y x g w5 Fy.out Fx.out EG2.out
        refine hcall.mono ?_
        clear hcall
        rintro e w6 ⟨rfl, hB⟩
        have HB6 := Lib.hid (belowVia hB HB5.out)
        clear hB HB5
        go_wp2_with fail
        have hcall := c_cmp api g 0 1 w6 Fg.out F0.out K1.out
        rw [intB_zero] at hcall
        refine hcall.mono ?_
        clear hcall
        rintro e w7 ⟨rfl, hB⟩
        have HB7 := Lib.hid (belowVia hB HB6.out)
        clear hB HB6
        go_wp2_with fail
        have hcall := c_div api x g p 0 w7 Fx.out Fg.out G0.out EP.out PX.out
        rw [intB_zero] at hcall
        refine hcall.mono ?_
        clear hcall
        rintro e w8 ⟨rfl, hB⟩
        have HB8 := Lib.hid (belowVia hB HB7.out)
        clear hB HB7
        go_wp2_with fail
        have hcall := c_div api y g q 0 w8 Fy.out Fg.out G0.out EQ.out PY.out
        rw [intB_zero] at hcall
        refine hcall.mono ?_
        clear hcall
        rintro e w9 ⟨rfl, hB⟩
        have HB9 := Lib.hid (belowVia hB HB8.out)
        clear hB HB8
        go_wp2_with fail
        have hcall := c_gcd p q 1 w9 Fp.out Fq.out CO.out
        rw [intB_one] at hcall
        refine hcall.mono ?_
        clear hcall
        rintro e w10 ⟨rfl, hB⟩
        have HB10 := Lib.hid (belowVia hB HB9.out)
        clear hB HB9
        go_wp2_with fail
        have hcall := c_mul api x z u w10 Fx.out Fz.out Fu.out EU.out
        refine hcall.mono ?_
        clear hcall
        rintro e w11 ⟨rfl, hB⟩
        have HB11 := Lib.hid (belowVia hB HB10.out)
        clear hB HB10
        go_wp2_with fail
        have hcall := c_mul api y z v w11 Fy.out Fz.out Fv.out EV.out
        refine hcall.mono ?_
        clear hcall
        rintro e w12 ⟨rfl, hB⟩
        have HB12 := Lib.hid (belowVia hB HB11.out)
        clear hB HB11
        go_wp2_with fail
        have hcall := c_gcd u v s w12 Fu.out Fv.out ET.out
        refine hcall.mono ?_
        clear hcall
        rintro e w13 ⟨rfl, hB⟩
        have HB13 := Lib.hid (belowVia hB HB12.out)
        clear hB HB12
        go_wp2_with fail
        have hcall := c_mul api g z s w13 Fg.out Fz.out Fs.out ES.out
        refine hcall.mono ?_
        clear hcall
        rintro e w14 ⟨rfl, hB⟩
        have HB14 := Lib.hid (belowVia hB HB13.out)
        clear hB HB13
        go_wp2_with fail
        have hcall := c_cmp api s 0 _ w14 Fs.out F0.out K2.out
        rw [intB_zero] at hcall
        refine hcall.mono ?_
        clear hcall
        rintro e w15 ⟨rfl, hB⟩
        have HB15 := Lib.hid (belowVia hB HB14.out)
        clear hB HB14
        go_wp2_with fail
        go_ret
        exact ⟨rfl, HB15.out⟩
      · skip
        go_wp2_with fail
        have hcall := c_gcd x y g w4 Fx.out Fy.out EG.out
        refine hcall.mono ?_
        clear hcall
        rintro e w5 ⟨rfl, hB⟩
        have HB5 := Lib.hid (belowVia hB HB4.out)
        clear hB HB4
        go_wp2_with fail
        have hcall := c_gcd y x g w5 Fy.out Fx.out EG2.out
        refine hcall.mono ?_
        clear hcall
        rintro e w6 ⟨rfl, hB⟩
        have HB6 := Lib.hid (belowVia hB HB5.out)
        clear hB HB5
        go_wp2_with fail
        have hcall := c_cmp api g 0 1 w6 Fg.out F0.out K1.out
        rw [intB_zero] at hcall
        refine hcall.mono ?_
        clear hcall
        rintro e w7 ⟨rfl, hB⟩
        have HB7 := Lib.hid (belowVia hB HB6.out)
        clear hB HB6
        go_wp2_with fail
        have hcall := c_div api x g p 0 w7 Fx.out Fg.out G0.out EP.out PX.out
        rw [intB_zero] at hcall
        refine hcall.mono ?_
        clear hcall
        rintro e w8 ⟨rfl, hB⟩
        have HB8 := Lib.hid (belowVia hB HB7.out)
        clear hB HB7
        go_wp2_with fail
        have hcall := c_div api y g q 0 w8 Fy.out Fg.out G0.out EQ.out PY.out
        rw [intB_zero] at hcall
        refine hcall.mono ?_
        clear hcall
        rintro e w9 ⟨rfl, hB⟩
        have HB9 := Lib.hid (belowVia hB HB8.out)
        clear hB HB8
        go_wp2_with fail
        have hcall := c_gcd p q 1 w9 Fp.out Fq.out CO.out
        rw [intB_one] at hcall
        refine hcall.mono ?_
        clear hcall
        rintro e w10 ⟨rfl, hB⟩
        have HB10 := Lib.hid (belowVia hB HB9.out)
        clear hB HB9
        go_wp2_with fail
        have hcall := c_mul api x z u w10 Fx.out Fz.out Fu.out EU.out
        refine hcall.mono ?_
        clear hcall
        rintro e w11 ⟨rfl, hB⟩
        have HB11 := Lib.hid (belowVia hB HB10.out)
        clear hB HB10
        go_wp2_with fail
        have hcall := c_mul api y z v w11 Fy.out Fz.out Fv.out EV.out
        refine hcall.mono ?_
        clear hcall
        rintro e w12 ⟨rfl, hB⟩
        have HB12 := Lib.hid (belowVia hB HB11.out)
        clear hB HB11
        go_wp2_with fail
        have hcall := c_gcd u v s w12 Fu.out Fv.out ET.out
        refine hcall.mono ?_
        clear hcall
        rintro e w13 ⟨rfl, hB⟩
        have HB13 := Lib.hid (belowVia hB HB12.out)
        clear hB HB12
        go_wp2_with fail
        have hcall := c_mul api g z s w13 Fg.out Fz.out Fs.out ES.out
        refine hcall.mono ?_
        clear hcall
        rintro e w14 ⟨rfl, hB⟩
        have HB14 := Lib.hid (belowVia hB HB13.out)
        clear hB HB13
        go_wp2_with fail
        have hcall := c_cmp api s 0 _ w14 Fs.out F0.out K2.out
        rw [intB_zero] at hcall
        refine hcall.mono ?_
        clear hcall
        rintro e w15 ⟨rfl, hB⟩
        have HB15 := Lib.hid (belowVia hB HB14.out)
        clear hB HB14
        go_wp2_with fail
        go_ret
        exact ⟨rfl, HB15.out⟩
      · skip
        go_wp2_with fail
        have hcall := c_gcd x y g w4 Fx.out Fy.out EG.out
        refine hcall.mono ?_
        clear hcall
        rintro e w5 ⟨rfl, hB⟩
        have HB5 := Lib.hid (belowVia hB HB4.out)
        clear hB HB4
        go_wp2_with fail
        have hcall := c_gcd y x g w5 Fy.out Fx.out EG2.out
        refine hcall.mono ?_
        clear hcall
        rintro e w6 ⟨rfl, hB⟩
        have HB6 := Lib.hid (belowVia hB HB5.out)
        clear hB HB5
        go_wp2_with fail
        have hcall := c_cmp api g 0 1 w6 Fg.out F0.out K1.out
        rw [intB_zero] at hcall
        refine hcall.mono ?_
        clear hcall
        rintro e w7 ⟨rfl, hB⟩
        have HB7 := Lib.hid (belowVia hB HB6.out)
        clear hB HB6
        go_wp2_with fail
        have hcall := c_div api x g p 0 w7 Fx.out Fg.out G0.out EP.out PX.out
        rw [intB_zero] at hcall
        refine hcall.mono ?_
        clear hcall
        rintro e w8 ⟨rfl, hB⟩
        have HB8 := Lib.hid (belowVia hB HB7.out)
        clear hB HB7
        go_wp2_with fail
        have hcall := c_div api y g q 0 w8 Fy.out Fg.out G0.out EQ.out PY.out
        rw [intB_zero] at hcall
        refine hcall.mono ?_
        clear hcall
        rintro e w9 ⟨rfl, hB⟩
        have HB9 := Lib.hid (belowVia hB HB8.out)
        clear hB HB8
        go_wp2_with fail
        have hcall := c_gcd p q 1 w9 Fp.out Fq.out CO.out
        rw [intB_one] at hcall
        refine hcall.mono ?_
        clear hcall
        rintro e w10 ⟨rfl, hB⟩
        have HB10 := Lib.hid (belowVia hB HB9.out)
        clear hB HB9
        go_wp2_with fail
        have hcall := c_mul api x z u w10 Fx.out Fz.out Fu.out EU.out
        refine hcall.mono ?_
        clear hcall
        rintro e w11 ⟨rfl, hB⟩
        have HB11 := Lib.hid (belowVia hB HB10.out)
        clear hB HB10
        go_wp2_with fail
        have hcall := c_mul api y z v w11 Fy.out Fz.out Fv.out EV.out
        refine hcall.mono ?_
        clear hcall
        rintro e w12 ⟨rfl, hB⟩
        have HB12 := Lib.hid (belowVia hB HB11.out)
        clear hB HB11
        go_wp2_with fail
        have hcall := c_gcd u v s w12 Fu.out Fv.out ET.out
        refine hcall.mono ?_
        clear hcall
        rintro e w13 ⟨rfl, hB⟩
        have HB13 := Lib.hid (belowVia hB HB12.out)
        clear hB HB12
        go_wp2_with fail
        have hcall := c_mul api g z s w13 Fg.out Fz.out Fs.out ES.out
        refine hcall.mono ?_
        clear hcall
        rintro e w14 ⟨rfl, hB⟩
        have HB14 := Lib.hid (belowVia hB HB13.out)
        clear hB HB13
        go_wp2_with fail
        have hcall := c_cmp api s 0 _ w14 Fs.out F0.out K2.out
        rw [intB_zero] at hcall
        refine hcall.mono ?_
        clear hcall
        rintro e w15 ⟨rfl, hB⟩
        have HB15 := Lib.hid (belowVia hB HB14.out)
        clear hB HB14
        go_wp2_with fail
        go_ret
        exact ⟨rfl, HB15.out⟩
      · skip
        go_wp2_with fail
        have hcall := c_gcd x y g w4 Fx.out Fy.out EG.out
        refine hcall.mono ?_
        clear hcall
        rintro e w5 ⟨rfl, hB⟩
        have HB5 := Lib.hid (belowVia hB HB4.out)
        clear hB HB4
        go_wp2_with fail
        have hcall := c_gcd y x g w5 Fy.out Fx.out EG2.out
        refine hcall.mono ?_
        clear hcall
        rintro e w6 ⟨rfl, hB⟩
        have HB6 := Lib.hid (belowVia hB HB5.out)
        clear hB HB5
        go_wp2_with fail
        have hcall := c_cmp api g 0 1 w6 Fg.out F0.out K1.out
        rw [intB_zero] at hcall
        refine hcall.mono ?_
        clear hcall
        rintro e w7 ⟨rfl, hB⟩
        have HB7 := Lib.hid (belowVia hB HB6.out)
        clear hB HB6
        go_wp2_with fail
        have hcall := c_div api x g p 0 w7 Fx.out Fg.out G0.out EP.out PX.out
        rw [intB_zero] at hcall
        refine hcall.mono ?_
        clear hcall
        rintro e w8 ⟨rfl, hB⟩
        have HB8 := Lib.hid (belowVia hB HB7.out)
        clear hB HB7
        go_wp2_with fail
        have hcall := c_div api y g q 0 w8 Fy.out Fg.out G0.out EQ.out PY.out
        rw [intB_zero] at hcall
        refine hcall.mono ?_
        clear hcall
        rintro e w9 ⟨rfl, hB⟩
        have HB9 := Lib.hid (belowVia hB HB8.out)
        clear hB HB8
        go_wp2_with fail
        have hcall := c_gcd p q 1 w9 Fp.out Fq.out CO.out
        rw [intB_one] at hcall
        refine hcall.mono ?_
        clear hcall
        rintro e w10 ⟨rfl, hB⟩
        have HB10 := Lib.hid (belowVia hB HB9.out)
        clear hB HB9
        go_wp2_with fail
        have hcall := c_mul api x z u w10 Fx.out Fz.out Fu.out EU.out
        refine hcall.mono ?_
        clear hcall
        rintro e w11 ⟨rfl, hB⟩
        have HB11 := Lib.hid (belowVia hB HB10.out)
        clear hB HB10
        go_wp2_with fail
        have hcall := c_mul api y z v w11 Fy.out Fz.out Fv.out EV.out
        refine hcall.mono ?_
        clear hcall
        rintro e w12 ⟨rfl, hB⟩
        have HB12 := Lib.hid (belowVia hB HB11.out)
        clear hB HB11
        go_wp2_with fail
        have hcall := c_gcd u v s w12 Fu.out Fv.out ET.out
        refine hcall.mono ?_
        clear hcall
        rintro e w13 ⟨rfl, hB⟩
        have HB13 := Lib.hid (belowVia hB HB12.out)
        clear hB HB12
        go_wp2_with fail
        have hcall := c_mul api g z s w13 Fg.out Fz.out Fs.out ES.out
        refine hcall.mono ?_
        clear hcall
        rintro e w14 ⟨rfl, hB⟩
        have HB14 := Lib.hid (belowVia hB HB13.out)
        clear hB HB13
        go_wp2_with fail
        have hcall := c_cmp api s 0 _ w14 Fs.out F0.out K2.out
        rw [intB_zero] at hcall
        refine hcall.mono ?_
        clear hcall
        rintro e w15 ⟨rfl, hB⟩
        have HB15 := Lib.hid (belowVia hB HB14.out)
        clear hB HB14
        go_wp2_with fail
        go_ret
        exact ⟨rfl, HB15.out⟩
end Go.Proofs.YtggkbeppfpgkaaaDoor
