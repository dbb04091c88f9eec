/- IntegerRoot's body. -/
import Derived.Test.YtggkbeppfpgkaaaDoorIntSane
namespace Go.Proofs.YtggkbeppfpgkaaaDoor
open Go.RowKit Putlog

theorem le_abs {a b : Int} {k : Nat} (hb : b.natAbs < 10 ^ k) (h : a.natAbs ≤ b.natAbs) : a.natAbs < 10 ^ k := Nat.lt_of_le_of_lt h hb
set_option maxRecDepth 100000 in
set_option maxHeartbeats 4000000 in
theorem Root_calls (a : ByteArray) (w : World) (ha : (a.size : Int) ≤ 9223372036854775807) :
    Calls Tryd.prog 8 #[.string a] w fun e w' => e = .returned (.bool true) ∧ Below w.heap.size w w' := by
  go_enter Tryd.func8, Tryd.ntmps8
  go_wp2_with fail
  refine (sane_any w).mono ?_
  rintro e w1 ⟨rfl, hB⟩
  have HB1 := Lib.hid hB
  clear hB
  go_wp2_with fail
  refine (rmade_any a 80 w1 ha (by omega)).mono ?_
  rintro e w2 ⟨⟨x, rfl, hx⟩, hB⟩
  have HB2 := Lib.hid (belowVia hB HB1.out)
  clear hB HB1
  have f0 : Fits 0 := by decide
  have f1 : Fits 1 := by decide
  obtain ⟨s, es⟩ : ∃ s : Int, (x.natAbs : Int) = s := ⟨_, rfl⟩
  obtain ⟨q, eq⟩ : ∃ q, x * x = q := ⟨_, rfl⟩
  have hq : q.natAbs < 10 ^ 160 := by rw [← eq]; exact abs_mul hx hx
  have hq0 : 0 ≤ q := by rw [← eq]; rcases (show x < 0 ∨ 0 ≤ x by omega) with h | h; exact Int.le_of_lt (Int.mul_pos_of_neg_of_neg h h); exact Int.mul_nonneg h h
  have hsq : ((sqrtN q.natAbs : Nat) : Int) = s := by rw [← eq, Int.natAbs_mul, sqrtN_square]; exact es
  obtain ⟨b, eb⟩ : ∃ b, s + x = b := ⟨_, rfl⟩
  have hs : s.natAbs < 10 ^ 80 := by rw [← es, Int.natAbs_natCast]; exact hx
  have hb : b.natAbs < 10 ^ 81 := by rw [← eb]; exact abs_add hs hx
  have Fx := Lib.hid (fits_of hx (by decide))
  have Fs := Lib.hid (fits_of hs (by decide))
  have Fq := Lib.hid (fits_of hq (by decide))
  have Fb := Lib.hid (fits_of hb (by decide))
  have F0 := Lib.hid f0
  have F1 := Lib.hid f1
  have HQ0 := Lib.hid hq0
  have ES := Lib.hid es
  have EQ := Lib.hid eq
  have EB := Lib.hid eb
  have HSQ := Lib.hid hsq
  have HX := Lib.hid hx
  clear f0 f1 hq hq0 hsq hs hb es eq eb hx
  rcases (show x < 0 ∨ 0 ≤ x by omega) with hn | hp
  · have HN := Lib.hid hn
    have hxy : ((intB s).toList == (intB x).toList) = false := by rw [intB_ne]; have := ES.out; simp; omega
    have hb0 : b = 0 := by have := ES.out; have := EB.out; omega
    have HB0 := Lib.hid hb0
    clear hn hb0
    go_wp2_with fail
    refine (root_neg x Fx.out HN.out w2).mono ?_
    rintro e w3 ⟨rfl, hB⟩
    have HB3 := Lib.hid (belowVia hB HB2.out)
    clear hB HB2
    go_wp2_with fail
    have hcall := c_mul api x x q w3 Fx.out Fx.out Fq.out EQ.out
    refine hcall.mono ?_
    clear hcall
    rintro e w4 ⟨rfl, hB⟩
    have HB4 := Lib.hid (belowVia hB HB3.out)
    clear hB HB3
    go_wp2_with fail
    have hcall := root_ok q Fq.out HQ0.out w4
    rw [HSQ.out] at hcall
    refine hcall.mono ?_
    clear hcall
    rintro e w5 ⟨rfl, hB⟩
    have HB5 := Lib.hid (belowVia hB HB4.out)
    clear hB HB4
    go_wp2_with fail
    have hcall := c_add api s x b w5 Fs.out Fx.out Fb.out EB.out
    rw [HB0.out, intB_zero] at hcall
    refine hcall.mono ?_
    clear hcall
    rintro e w6 ⟨rfl, hB⟩
    have HB6 := Lib.hid (belowVia hB HB5.out)
    clear hB HB5
    go_wp2_with fail
    have hcall := c_cmp api x 0 (-1) w6 Fx.out F0.out (by have := HN.out; unfold cmpI; rw [if_pos (by omega)])
    rw [intB_zero] at hcall
    refine hcall.mono ?_
    clear hcall
    rintro e w7 ⟨rfl, hB⟩
    have HB7 := Lib.hid (belowVia hB HB6.out)
    clear hB HB6
    go_wp2_with fail
    go_ret
    exact ⟨rfl, HB7.out⟩
  · have hsx : s = x := by have := ES.out; omega
    have HP := Lib.hid hp
    obtain ⟨r, er⟩ : ∃ r : Int, ((sqrtN x.natAbs : Nat) : Int) = r := ⟨_, rfl⟩
    have hr : r.natAbs < 10 ^ 80 := by rw [← er, Int.natAbs_natCast]; exact Nat.lt_of_le_of_lt (sqrt_le _) HX.out
    have hr0 : 0 ≤ r := by omega
    have hlo := sqrtN_le x.natAbs
    have hhi := sqrtN_lt x.natAbs
    obtain ⟨l, el⟩ : ∃ l, r * r = l := ⟨_, rfl⟩
    obtain ⟨n, en⟩ : ∃ n, r + 1 = n := ⟨_, rfl⟩
    obtain ⟨m, em⟩ : ∃ m, n * n = m := ⟨_, rfl⟩
    have hl : l.natAbs < 10 ^ 160 := by rw [← el]; exact abs_mul hr hr
    have hn : n.natAbs < 10 ^ 81 := by rw [← en]; exact abs_add hr (show (1 : Int).natAbs < 10 ^ 80 from Nat.one_lt_pow (by decide) (by decide))
    have hm : m.natAbs < 10 ^ 162 := by rw [← em]; exact abs_mul hn hn
    have hlx : l ≤ x := by
      have : ((sqrtN x.natAbs * sqrtN x.natAbs : Nat) : Int) = l := by rw [Int.natCast_mul, er, el]
      omega
    have hmx : x < m := by
      have : (((sqrtN x.natAbs + 1) * (sqrtN x.natAbs + 1) : Nat) : Int) = m := by rw [Int.natCast_mul, Int.natCast_add, er, ← em, ← en]; rfl
      omega
    have Fr := Lib.hid (fits_of hr (by decide))
    have Fl := Lib.hid (fits_of hl (by decide))
    have Fn := Lib.hid (fits_of hn (by decide))
    have Fm := Lib.hid (fits_of hm (by decide))
    have ER := Lib.hid er
    have EL := Lib.hid el
    have EN := Lib.hid en
    have EM := Lib.hid em
    obtain ⟨k, ek⟩ : ∃ k, cmpI l x = k := ⟨_, rfl⟩
    have hk : k = -1 ∨ k = 0 := by rw [← ek]; unfold cmpI; split <;> (try split) <;> omega
    have EK := Lib.hid ek
    have EK2 := Lib.hid (show cmpI m x = 1 by unfold cmpI; rw [if_neg (by omega), if_pos (by omega)])
    have EK3 := Lib.hid (show ∃ j, cmpI x 0 = j ∧ (j = 0 ∨ j = 1) from ⟨_, rfl, by unfold cmpI; split <;> (try split) <;> omega⟩)
    clear hr hr0 hlo hhi hl hn hm hlx hmx er el en em hp ek
    rw [hsx] at Fs ES EB HSQ
    clear hsx
    obtain ⟨j, hj1, hj2⟩ := EK3.out
    have EJ := Lib.hid hj1
    clear hj1 EK3
    have hj0 : ¬ j < 0 := by omega
    have hk0 : k ≤ 0 := by omega
    rcases hj2 with rfl | rfl <;> rcases hk with rfl | rfl <;> clear hj0 hk0
    all_goals
      go_wp2_with fail
      have hcall := root_ok x Fx.out HP.out w2
      rw [ER.out] at hcall
      refine hcall.mono ?_
      clear hcall
      rintro e w3 ⟨rfl, hB⟩
      have HB3 := Lib.hid (belowVia hB HB2.out)
      clear hB HB2
      go_wp2_with fail
      have hcall := c_mul api x x q w3 Fx.out Fx.out Fq.out EQ.out
      refine hcall.mono ?_
      clear hcall
      rintro e w4 ⟨rfl, hB⟩
      have HB4 := Lib.hid (belowVia hB HB3.out)
      clear hB HB3
      go_wp2_with fail
      have hcall := root_ok q Fq.out HQ0.out w4
      rw [HSQ.out] at hcall
      refine hcall.mono ?_
      clear hcall
      rintro e w5 ⟨rfl, hB⟩
      have HB5 := Lib.hid (belowVia hB HB4.out)
      clear hB HB4
      go_wp2_with fail
      have hcall := c_add api x x b w5 Fx.out Fx.out Fb.out EB.out
      refine hcall.mono ?_
      clear hcall
      rintro e w6 ⟨rfl, hB⟩
      have HB6 := Lib.hid (belowVia hB HB5.out)
      clear hB HB5
      go_wp2_with fail
      have hcall := c_cmp api x 0 _ w6 Fx.out F0.out EJ.out
      rw [intB_zero] at hcall
      refine hcall.mono ?_
      clear hcall
      rintro e w7 ⟨rfl, hB⟩
      have HB7 := Lib.hid (belowVia hB HB6.out)
      clear hB HB6
      go_wp2_with fail
      have hcall := c_mul api r r l w7 Fr.out Fr.out Fl.out EL.out
      refine hcall.mono ?_
      clear hcall
      rintro e w8 ⟨rfl, hB⟩
      have HB8 := Lib.hid (belowVia hB HB7.out)
      clear hB HB7
      go_wp2_with fail
      have hcall := c_add api r 1 n w8 Fr.out F1.out Fn.out EN.out
      rw [intB_one] at hcall
      refine hcall.mono ?_
      clear hcall
      rintro e w9 ⟨rfl, hB⟩
      have HB9 := Lib.hid (belowVia hB HB8.out)
      clear hB HB8
      go_wp2_with fail
      have hcall := c_mul api n n m w9 Fn.out Fn.out Fm.out EM.out
      refine hcall.mono ?_
      clear hcall
      rintro e w10 ⟨rfl, hB⟩
      have HB10 := Lib.hid (belowVia hB HB9.out)
      clear hB HB9
      go_wp2_with fail
      have hcall := c_cmp api l x _ w10 Fl.out Fx.out EK.out
      refine hcall.mono ?_
      clear hcall
      rintro e w11 ⟨rfl, hB⟩
      have HB11 := Lib.hid (belowVia hB HB10.out)
      clear hB HB10
      go_wp2_with fail
      have hcall := c_cmp api m x _ w11 Fm.out Fx.out EK2.out
      refine hcall.mono ?_
      clear hcall
      rintro e w12 ⟨rfl, hB⟩
      have HB12 := Lib.hid (belowVia hB HB11.out)
      clear hB HB11
      go_wp2_with fail
      go_ret
      exact ⟨rfl, HB12.out⟩
end Go.Proofs.YtggkbeppfpgkaaaDoor
