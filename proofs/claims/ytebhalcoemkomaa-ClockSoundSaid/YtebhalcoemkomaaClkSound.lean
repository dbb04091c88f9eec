/- ClockSound: what the law's body answers. -/
import Derived.Test.YtebhalcoemkomaaClkSoundP
namespace Go.Proofs.Ytebhalcoemkomaa
open Go.RowKit Putlog

set_option maxRecDepth 100000 in
set_option maxHeartbeats 8000000 in
theorem Sound_calls (drift start : Int) (rates : List Int) (A : List Rd) (v u : Value) (t other : Int) (W : World) (h0 : I64 drift) (h1 : I64 start) (hr : NumsAt W v rates) (hri : ∀ x ∈ rates, I64 x) (hA : RdsAt W u A) (h4 : I64 t) (h5 : I64 other) :
    Calls Try.prog 4 #[.int .i64 drift, .int .i64 start, v, u, .int .i64 t, .int .i64 other] W fun e w' => e = .returned (.bool true) ∧ Below W.heap.size W w' := by
  have HM := Lib.hid (fun w (hB : Below W.heap.size W w) => made_any drift start rates A v u w h0 h1 (hr.via hB) hri (hA.via hB))
  have HS := Lib.hid (fun (T : Int) (t0 : 0 ≤ T) (t1 : T ≤ 5000) w (hB : Below W.heap.size W w) => shown_t drift start T rates v w h0 h1 t0 t1 (hr.via hB) hri)
  have HT := Lib.hid (fun w => pick_any t 5000 h4.1 h4.2 (by decide) (by decide) w)
  have HO := Lib.hid (fun w => pick_any other 201 h5.1 h5.2 (by decide) (by decide) w)
  obtain ⟨t0, t1⟩ := pkN_bounds t (n := 5000) (by decide)
  obtain ⟨o0, o1⟩ := pkN_bounds other (n := 201) (by decide)
  have HST := Lib.hid (pkN_bounds start (n := 1000) (by decide))
  clear h0 h1 hr hri hA h4 h5
  generalize pkN t 5000 = T at *
  generalize pkN other 201 = O at *
  go_enter Try.func4, Try.ntmps4
  go_wp2_with fail
  refine (sane_any W).mono ?_
  rintro e w1 ⟨rfl, hB⟩
  have HW := Lib.hid hB
  clear hB
  go_wp2_with fail
  refine (HM.out _ HW.out).mono ?_
  rintro e w2 ⟨rs, x, rfl, hm, hx, hB⟩
  have HW := Lib.hid (belowVia hB HW.out)
  have HMD := Lib.hid hm
  have HX := Lib.hid hx
  obtain ⟨xa, xc, hxe, _, _, _⟩ := hx.at_
  subst hxe
  clear hm hx hB
  go_wp2_with fail
  have HW := Lib.hid (belowVia (alloc_below w2 (.cells #[.int .i64 (pkN drift 101), .slice xa rs.length xc] 24)) HW.out)
  have HC := Lib.hid (ClockAt.new (d := pkN drift 101) HX.out)
  clear HX
  generalize w2.alloc (.cells #[.int .i64 (pkN drift 101), .slice xa rs.length xc] 24) = w3 at *
  generalize w2.heap.size = q at *
  refine (HT.out _).mono ?_
  rintro e w4 ⟨rfl, rfl⟩
  go_wp2_with fail
  refine (HS.out T t0 (by omega) _ HW.out).mono ?_
  rintro e w4 ⟨rfl, rfl⟩
  obtain ⟨a, b, hf, _⟩ := made_facts HMD.out HST.out.1 HST.out.2 t0 (by omega) (.slice xa rs.length xc)
  have HF := Lib.hid hf
  clear hf HM HS HT HMD
  generalize shownC (pkN drift 101) (pkN start 1000) rates T = L at *
  generalize winF (pkN drift 101) L rs = F at *
  generalize winG (pkN drift 101) L rs = G at *
  generalize pkN drift 101 = d at *
  have c0 := HC.out.c0
  have c1 := HC.out.c1
  go_wp2_with fail
  clear c0 c1
  refine (HF.out.at_ _ HC.out.rd).mono ?_
  rintro e w5 ⟨rfl, hB⟩
  have HW := Lib.hid (belowVia hB HW.out)
  have HC := Lib.hid (HC.out.via hB)
  clear hB
  have c0 := HC.out.c0
  have c1 := HC.out.c1
  go_wp2_with fail
  clear c0 c1
  refine (HF.out.reads _ HC.out.rd).mono ?_
  rintro e w6 ⟨rfl, hB⟩
  have HW := Lib.hid (belowVia hB HW.out)
  have HC := Lib.hid (HC.out.via hB)
  clear hB
  have c0 := HC.out.c0
  have c1 := HC.out.c1
  go_wp2_with fail
  clear c0 c1
  refine (HF.out.valid _ HC.out.rd).mono ?_
  rintro e w7 ⟨rfl, hB⟩
  have HW := Lib.hid (belowVia hB HW.out)
  have HC := Lib.hid (HC.out.via hB)
  clear hB
  go_wp2_with fail
  refine (HO.out _).mono ?_
  rintro e w8 ⟨rfl, rfl⟩
  have HB1 := Lib.hid (HF.out.before other)
  have HA1 := Lib.hid (HF.out.after other)
  obtain ⟨N, hN⟩ : ∃ N, T + O - 100 = N := ⟨_, rfl⟩
  have HB2 := Lib.hid (HF.out.before N)
  have HA2 := Lib.hid (HF.out.after N)
  have k1 := HF.out.lo
  have k2 := HF.out.hi
  have k3 := HF.out.le
  have k4 := HF.out.lt
  have k5 := HF.out.a0
  have k6 := HF.out.b1
  have k7 : L ≤ b - 1 := by omega
  rcases sides k1 k2 other with ⟨e1, e2, e3⟩ | ⟨e1, e2, e3⟩ | ⟨e1, e2, e3⟩ <;> rcases sides k1 k2 N with ⟨g1, g2, g3⟩ | ⟨g1, g2, g3⟩ | ⟨g1, g2, g3⟩
  all_goals
    rw [e1] at HB1
    rw [e2] at HA1
    rw [g1] at HB2
    rw [g2] at HA2
    clear e1 e2 g1 g2
    have c0 := HC.out.c0
    have c1 := HC.out.c1
    go_wp2_with fail
    clear c0 c1
    refine (HB1.out _ HC.out.rd).mono ?_
    rintro e w9 ⟨rfl, hB⟩
    have HW := Lib.hid (belowVia hB HW.out)
    have HC := Lib.hid (HC.out.via hB)
    clear hB
    have c0 := HC.out.c0
    have c1 := HC.out.c1
    go_wp2_with fail
    clear c0 c1
    refine (HA1.out _ HC.out.rd).mono ?_
    rintro e w10 ⟨rfl, hB⟩
    have HW := Lib.hid (belowVia hB HW.out)
    have HC := Lib.hid (HC.out.via hB)
    clear hB
    have c0 := HC.out.c0
    have c1 := HC.out.c1
    go_wp2_with fail
    clear c0 c1
    refine (HB2.out _ HC.out.rd).mono ?_
    rintro e w11 ⟨rfl, hB⟩
    have HW := Lib.hid (belowVia hB HW.out)
    have HC := Lib.hid (HC.out.via hB)
    clear hB
    have c0 := HC.out.c0
    have c1 := HC.out.c1
    go_wp2_with fail
    clear c0 c1
    refine (HA2.out _ HC.out.rd).mono ?_
    rintro e w12 ⟨rfl, hB⟩
    have HW := Lib.hid (belowVia hB HW.out)
    clear hB
    go_wp2_with fail
    go_ret
    exact ⟨rfl, HW.out⟩
end Go.Proofs.Ytebhalcoemkomaa
