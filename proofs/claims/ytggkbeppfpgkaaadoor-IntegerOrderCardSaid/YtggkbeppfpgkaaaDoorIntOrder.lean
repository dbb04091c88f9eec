/- IntegerOrder: what the law's body answers, out of the contracts. -/
import Derived.Test.YtggkbeppfpgkaaaDoorIntApi
namespace Go.Proofs.YtggkbeppfpgkaaaDoor
open Go.RowKit Putlog

set_option maxRecDepth 100000 in
set_option maxHeartbeats 4000000 in
theorem Order_calls (H : Api) (hsane : ∀ w : World, Calls Tryd.prog 11 #[] w fun e w' => e = .returned (.bool true) ∧ Below w.heap.size w w') (a b c : ByteArray) (w : World)
    (ha : (a.size : Int) ≤ 9223372036854775807) (hb : (b.size : Int) ≤ 9223372036854775807) (hc : (c.size : Int) ≤ 9223372036854775807) :
    Calls Tryd.prog 9 #[.string a, .string b, .string c] w fun e w' => e = .returned (.bool true) ∧ Below w.heap.size w w' := by
  have HS := Lib.hid hsane
  have HH := Lib.hid H
  clear H hsane
  go_enter Tryd.func9, Tryd.ntmps9
  go_wp2_with fail
  refine (HS.out w).mono ?_
  rintro e w1 ⟨rfl, hB⟩
  have HB1 := Lib.hid hB
  clear hB HS
  go_wp2_with fail
  refine (rmade_any a 60 w1 ha (by omega)).mono ?_
  rintro e w2 ⟨⟨x, rfl, hx⟩, hB⟩
  have HX := Lib.hid hx
  have HB2 := Lib.hid (belowVia hB HB1.out)
  clear hB hx HB1
  go_wp2_with fail
  refine (rmade_any b 60 w2 hb (by omega)).mono ?_
  rintro e w3 ⟨⟨y, rfl, hy⟩, hB⟩
  have HY := Lib.hid hy
  have HB3 := Lib.hid (belowVia hB HB2.out)
  clear hB hy HB2
  go_wp2_with fail
  refine (rmade_any c 60 w3 hc (by omega)).mono ?_
  rintro e w4 ⟨⟨z, rfl, hz⟩, hB⟩
  have HZ := Lib.hid hz
  have HB4 := Lib.hid (belowVia hB HB3.out)
  clear hB hz HB3
  have f0 : Fits 0 := by decide
  have hx := HX.out
  have hy := HY.out
  have hz := HZ.out
  obtain ⟨d, ed⟩ : ∃ r, x - y = r := ⟨_, rfl⟩
  obtain ⟨u, eu⟩ : ∃ r, x + z = r := ⟨_, rfl⟩
  obtain ⟨v, ev⟩ : ∃ r, y + z = r := ⟨_, rfl⟩
  have hd : d.natAbs < 10 ^ 61 := by rw [← ed]; exact abs_sub hx hy
  have hu : u.natAbs < 10 ^ 61 := by rw [← eu]; exact abs_add hx hz
  have hv : v.natAbs < 10 ^ 61 := by rw [← ev]; exact abs_add hy hz
  have Fx := Lib.hid (fits_of hx (by decide))
  have Fy := Lib.hid (fits_of hy (by decide))
  have Fz := Lib.hid (fits_of hz (by decide))
  have Fd := Lib.hid (fits_of hd (by decide))
  have Fu := Lib.hid (fits_of hu (by decide))
  have Fv := Lib.hid (fits_of hv (by decide))
  have F0 := Lib.hid f0
  have ED := Lib.hid ed
  have EU := Lib.hid eu
  have EV := Lib.hid ev
  clear f0 hx hy hz hd hu hv HX HY HZ ed eu ev
  rcases Int.lt_trichotomy x y with hlt | heq | hgt
  ·
    have k1 := Lib.hid (show cmpI x y = -1 by unfold cmpI; (repeat' split) <;> omega)
    have k2 := Lib.hid (show cmpI y x = 1 by unfold cmpI; (repeat' split) <;> omega)
    have k3 := Lib.hid (show cmpI d 0 = -1 by have := ED.out; unfold cmpI; (repeat' split) <;> omega)
    have k4 := Lib.hid (show cmpI u v = -1 by have := EU.out; have := EV.out; unfold cmpI; (repeat' split) <;> omega)
    have hxy : ((intB x).toList == (intB y).toList) = false := by rw [intB_ne]; simp; omega
    go_wp2_with fail
    have hcall := c_cmp HH.out x y _ w4 Fx.out Fy.out k1.out
    refine hcall.mono ?_
    clear hcall
    rintro e w5 ⟨rfl, hB⟩
    have HB5 := Lib.hid (belowVia hB HB4.out)
    clear hB HB4
    go_wp2_with fail
    have hcall := c_sub HH.out x y d w5 Fx.out Fy.out Fd.out ED.out
    refine hcall.mono ?_
    clear hcall
    rintro e w6 ⟨rfl, hB⟩
    have HB6 := Lib.hid (belowVia hB HB5.out)
    clear hB HB5
    go_wp2_with fail
    have hcall := c_add HH.out x z u w6 Fx.out Fz.out Fu.out EU.out
    refine hcall.mono ?_
    clear hcall
    rintro e w7 ⟨rfl, hB⟩
    have HB7 := Lib.hid (belowVia hB HB6.out)
    clear hB HB6
    go_wp2_with fail
    have hcall := c_add HH.out y z v w7 Fy.out Fz.out Fv.out EV.out
    refine hcall.mono ?_
    clear hcall
    rintro e w8 ⟨rfl, hB⟩
    have HB8 := Lib.hid (belowVia hB HB7.out)
    clear hB HB7
    go_wp2_with fail
    have hcall := c_cmp HH.out y x _ w8 Fy.out Fx.out k2.out
    refine hcall.mono ?_
    clear hcall
    rintro e w9 ⟨rfl, hB⟩
    have HB9 := Lib.hid (belowVia hB HB8.out)
    clear hB HB8
    go_wp2_with fail
    have hcall := c_cmp HH.out d 0 _ w9 Fd.out F0.out k3.out
    rw [intB_zero] at hcall
    refine hcall.mono ?_
    clear hcall
    rintro e w10 ⟨rfl, hB⟩
    have HB10 := Lib.hid (belowVia hB HB9.out)
    clear hB HB9
    go_wp2_with fail
    have hcall := c_cmp HH.out u v _ w10 Fu.out Fv.out k4.out
    refine hcall.mono ?_
    clear hcall
    rintro e w11 ⟨rfl, hB⟩
    have HB11 := Lib.hid (belowVia hB HB10.out)
    clear hB HB10
    rcases (show cmpI y z = 1 ∨ (cmpI y z = -1 ∧ cmpI x z = -1) ∨ (cmpI y z = 0 ∧ (cmpI x z = 0 ∨ cmpI x z = -1)) by unfold cmpI; (repeat' split) <;> simp <;> omega) with c5 | ⟨c5, c6⟩ | ⟨c5, c6 | c6⟩
    ·
      go_wp2_with fail
      have hcall := c_cmp HH.out y z _ w11 Fy.out Fz.out c5
      refine hcall.mono ?_
      clear hcall
      rintro e w12 ⟨rfl, hB⟩
      have HB12 := Lib.hid (belowVia hB HB11.out)
      clear hB HB11
      go_wp2_with fail
      go_ret
      exact ⟨rfl, HB12.out⟩
    ·
      go_wp2_with fail
      have hcall := c_cmp HH.out y z _ w11 Fy.out Fz.out c5
      refine hcall.mono ?_
      clear hcall
      rintro e w12 ⟨rfl, hB⟩
      have HB12 := Lib.hid (belowVia hB HB11.out)
      clear hB HB11
      go_wp2_with fail
      have hcall := c_cmp HH.out x z _ w12 Fx.out Fz.out c6
      refine hcall.mono ?_
      clear hcall
      rintro e w13 ⟨rfl, hB⟩
      have HB13 := Lib.hid (belowVia hB HB12.out)
      clear hB HB12
      go_wp2_with fail
      go_ret
      exact ⟨rfl, HB13.out⟩
    ·
      go_wp2_with fail
      have hcall := c_cmp HH.out y z _ w11 Fy.out Fz.out c5
      refine hcall.mono ?_
      clear hcall
      rintro e w12 ⟨rfl, hB⟩
      have HB12 := Lib.hid (belowVia hB HB11.out)
      clear hB HB11
      go_wp2_with fail
      have hcall := c_cmp HH.out x z _ w12 Fx.out Fz.out c6
      refine hcall.mono ?_
      clear hcall
      rintro e w13 ⟨rfl, hB⟩
      have HB13 := Lib.hid (belowVia hB HB12.out)
      clear hB HB12
      go_wp2_with fail
      go_ret
      exact ⟨rfl, HB13.out⟩
    ·
      go_wp2_with fail
      have hcall := c_cmp HH.out y z _ w11 Fy.out Fz.out c5
      refine hcall.mono ?_
      clear hcall
      rintro e w12 ⟨rfl, hB⟩
      have HB12 := Lib.hid (belowVia hB HB11.out)
      clear hB HB11
      go_wp2_with fail
      have hcall := c_cmp HH.out x z _ w12 Fx.out Fz.out c6
      refine hcall.mono ?_
      clear hcall
      rintro e w13 ⟨rfl, hB⟩
      have HB13 := Lib.hid (belowVia hB HB12.out)
      clear hB HB12
      go_wp2_with fail
      go_ret
      exact ⟨rfl, HB13.out⟩
  ·
    have k1 := Lib.hid (show cmpI x y = 0 by unfold cmpI; (repeat' split) <;> omega)
    have k2 := Lib.hid (show cmpI y x = 0 by unfold cmpI; (repeat' split) <;> omega)
    have k3 := Lib.hid (show cmpI d 0 = 0 by have := ED.out; unfold cmpI; (repeat' split) <;> omega)
    have k4 := Lib.hid (show cmpI u v = 0 by have := EU.out; have := EV.out; unfold cmpI; (repeat' split) <;> omega)
    have hxy : ((intB x).toList == (intB y).toList) = true := by rw [intB_ne]; simp; omega
    have HEQ := Lib.hid heq
    clear heq
    go_wp2_with fail
    have hcall := c_cmp HH.out x y _ w4 Fx.out Fy.out k1.out
    refine hcall.mono ?_
    clear hcall
    rintro e w5 ⟨rfl, hB⟩
    have HB5 := Lib.hid (belowVia hB HB4.out)
    clear hB HB4
    go_wp2_with fail
    have hcall := c_sub HH.out x y d w5 Fx.out Fy.out Fd.out ED.out
    refine hcall.mono ?_
    clear hcall
    rintro e w6 ⟨rfl, hB⟩
    have HB6 := Lib.hid (belowVia hB HB5.out)
    clear hB HB5
    go_wp2_with fail
    have hcall := c_add HH.out x z u w6 Fx.out Fz.out Fu.out EU.out
    refine hcall.mono ?_
    clear hcall
    rintro e w7 ⟨rfl, hB⟩
    have HB7 := Lib.hid (belowVia hB HB6.out)
    clear hB HB6
    go_wp2_with fail
    have hcall := c_add HH.out y z v w7 Fy.out Fz.out Fv.out EV.out
    refine hcall.mono ?_
    clear hcall
    rintro e w8 ⟨rfl, hB⟩
    have HB8 := Lib.hid (belowVia hB HB7.out)
    clear hB HB7
    go_wp2_with fail
    have hcall := c_cmp HH.out y x _ w8 Fy.out Fx.out k2.out
    refine hcall.mono ?_
    clear hcall
    rintro e w9 ⟨rfl, hB⟩
    have HB9 := Lib.hid (belowVia hB HB8.out)
    clear hB HB8
    go_wp2_with fail
    have hcall := c_cmp HH.out d 0 _ w9 Fd.out F0.out k3.out
    rw [intB_zero] at hcall
    refine hcall.mono ?_
    clear hcall
    rintro e w10 ⟨rfl, hB⟩
    have HB10 := Lib.hid (belowVia hB HB9.out)
    clear hB HB9
    go_wp2_with fail
    have hcall := c_cmp HH.out u v _ w10 Fu.out Fv.out k4.out
    refine hcall.mono ?_
    clear hcall
    rintro e w11 ⟨rfl, hB⟩
    have HB11 := Lib.hid (belowVia hB HB10.out)
    clear hB HB10
    rcases (show cmpI y z = 1 ∨ (cmpI y z = -1 ∧ cmpI x z = -1) ∨ (cmpI y z = 0 ∧ (cmpI x z = 0 ∨ cmpI x z = -1)) by have := HEQ.out; unfold cmpI; (repeat' split) <;> simp <;> omega) with c5 | ⟨c5, c6⟩ | ⟨c5, c6 | c6⟩
    ·
      go_wp2_with fail
      have hcall := c_cmp HH.out y z _ w11 Fy.out Fz.out c5
      refine hcall.mono ?_
      clear hcall
      rintro e w12 ⟨rfl, hB⟩
      have HB12 := Lib.hid (belowVia hB HB11.out)
      clear hB HB11
      go_wp2_with fail
      go_ret
      exact ⟨rfl, HB12.out⟩
    ·
      go_wp2_with fail
      have hcall := c_cmp HH.out y z _ w11 Fy.out Fz.out c5
      refine hcall.mono ?_
      clear hcall
      rintro e w12 ⟨rfl, hB⟩
      have HB12 := Lib.hid (belowVia hB HB11.out)
      clear hB HB11
      go_wp2_with fail
      have hcall := c_cmp HH.out x z _ w12 Fx.out Fz.out c6
      refine hcall.mono ?_
      clear hcall
      rintro e w13 ⟨rfl, hB⟩
      have HB13 := Lib.hid (belowVia hB HB12.out)
      clear hB HB12
      go_wp2_with fail
      go_ret
      exact ⟨rfl, HB13.out⟩
    ·
      go_wp2_with fail
      have hcall := c_cmp HH.out y z _ w11 Fy.out Fz.out c5
      refine hcall.mono ?_
      clear hcall
      rintro e w12 ⟨rfl, hB⟩
      have HB12 := Lib.hid (belowVia hB HB11.out)
      clear hB HB11
      go_wp2_with fail
      have hcall := c_cmp HH.out x z _ w12 Fx.out Fz.out c6
      refine hcall.mono ?_
      clear hcall
      rintro e w13 ⟨rfl, hB⟩
      have HB13 := Lib.hid (belowVia hB HB12.out)
      clear hB HB12
      go_wp2_with fail
      go_ret
      exact ⟨rfl, HB13.out⟩
    ·
      go_wp2_with fail
      have hcall := c_cmp HH.out y z _ w11 Fy.out Fz.out c5
      refine hcall.mono ?_
      clear hcall
      rintro e w12 ⟨rfl, hB⟩
      have HB12 := Lib.hid (belowVia hB HB11.out)
      clear hB HB11
      go_wp2_with fail
      have hcall := c_cmp HH.out x z _ w12 Fx.out Fz.out c6
      refine hcall.mono ?_
      clear hcall
      rintro e w13 ⟨rfl, hB⟩
      have HB13 := Lib.hid (belowVia hB HB12.out)
      clear hB HB12
      go_wp2_with fail
      go_ret
      exact ⟨rfl, HB13.out⟩
  ·
    have k1 := Lib.hid (show cmpI x y = 1 by unfold cmpI; (repeat' split) <;> omega)
    have k2 := Lib.hid (show cmpI y x = -1 by unfold cmpI; (repeat' split) <;> omega)
    have k3 := Lib.hid (show cmpI d 0 = 1 by have := ED.out; unfold cmpI; (repeat' split) <;> omega)
    have k4 := Lib.hid (show cmpI u v = 1 by have := EU.out; have := EV.out; unfold cmpI; (repeat' split) <;> omega)
    have hxy : ((intB x).toList == (intB y).toList) = false := by rw [intB_ne]; simp; omega
    go_wp2_with fail
    have hcall := c_cmp HH.out x y _ w4 Fx.out Fy.out k1.out
    refine hcall.mono ?_
    clear hcall
    rintro e w5 ⟨rfl, hB⟩
    have HB5 := Lib.hid (belowVia hB HB4.out)
    clear hB HB4
    go_wp2_with fail
    have hcall := c_sub HH.out x y d w5 Fx.out Fy.out Fd.out ED.out
    refine hcall.mono ?_
    clear hcall
    rintro e w6 ⟨rfl, hB⟩
    have HB6 := Lib.hid (belowVia hB HB5.out)
    clear hB HB5
    go_wp2_with fail
    have hcall := c_add HH.out x z u w6 Fx.out Fz.out Fu.out EU.out
    refine hcall.mono ?_
    clear hcall
    rintro e w7 ⟨rfl, hB⟩
    have HB7 := Lib.hid (belowVia hB HB6.out)
    clear hB HB6
    go_wp2_with fail
    have hcall := c_add HH.out y z v w7 Fy.out Fz.out Fv.out EV.out
    refine hcall.mono ?_
    clear hcall
    rintro e w8 ⟨rfl, hB⟩
    have HB8 := Lib.hid (belowVia hB HB7.out)
    clear hB HB7
    go_wp2_with fail
    have hcall := c_cmp HH.out y x _ w8 Fy.out Fx.out k2.out
    refine hcall.mono ?_
    clear hcall
    rintro e w9 ⟨rfl, hB⟩
    have HB9 := Lib.hid (belowVia hB HB8.out)
    clear hB HB8
    go_wp2_with fail
    have hcall := c_cmp HH.out d 0 _ w9 Fd.out F0.out k3.out
    rw [intB_zero] at hcall
    refine hcall.mono ?_
    clear hcall
    rintro e w10 ⟨rfl, hB⟩
    have HB10 := Lib.hid (belowVia hB HB9.out)
    clear hB HB9
    go_wp2_with fail
    have hcall := c_cmp HH.out u v _ w10 Fu.out Fv.out k4.out
    refine hcall.mono ?_
    clear hcall
    rintro e w11 ⟨rfl, hB⟩
    have HB11 := Lib.hid (belowVia hB HB10.out)
    clear hB HB10
    go_wp2_with fail
    go_ret
    exact ⟨rfl, HB11.out⟩
end Go.Proofs.YtggkbeppfpgkaaaDoor
