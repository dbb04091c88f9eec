/- ClockInverse: what the law's body answers. -/
import Derived.Test.YtebhalcoemkomaaClkSoundP
import Derived.Test.YtebhalcoemkomaaClkExact
namespace Go.Proofs.Ytebhalcoemkomaa
open Go.RowKit Putlog

theorem s4Keep {v w w1 : World} {p q i : Nat} {x y z : Value} (h : w.cell? ⟨p, 0, none⟩ = some x ∧ w.cell? ⟨p, 1, none⟩ = some y ∧ w.cell? ⟨q, i, none⟩ = some z ∧ Below v.heap.size v w) (hB : Below w.heap.size w w1) : w1.cell? ⟨p, 0, none⟩ = some x ∧ w1.cell? ⟨p, 1, none⟩ = some y ∧ w1.cell? ⟨q, i, none⟩ = some z ∧ Below v.heap.size v w1 := ⟨keptBelow hB h.1, keptBelow hB h.2.1, keptBelow hB h.2.2.1, belowVia hB h.2.2.2⟩
/-- What At answers at a second, held against what Reads answered. -/
theorem at_cases {d T a b v : Int} {rs : List Rd} {x : Value} (hv : validC d rs = true) (hr : ReadsIs d rs T a b) (v0 : 0 ≤ v) (v1 : v ≤ 10000000) :
    ∃ lo hi er, (∀ w, RdsAt w x rs → Calls Try.prog 20 #[.agg #[.int .i64 d, x], .int .i64 v] w fun e w' => e = .returned (.tuple #[.int .i64 lo, .int .i64 hi, .int .i64 er]) ∧ Below w.heap.size w w') ∧
      ((a ≤ v ∧ v < b ∧ er = 0 ∧ lo ≤ T ∧ T ≤ hi) ∨ ((v < a ∨ b ≤ v) ∧ (er = 50 ∨ (er = 0 ∧ T < lo) ∨ (er = 0 ∧ lo ≤ T ∧ hi < T)))) := by
  have hm := hr.mem v0 v1
  cases hok : atOk d rs v with
  | false =>
    refine ⟨0, 0, 50, fun w hw => at_no d v rs x w hw hok, .inr ⟨?_, .inl rfl⟩⟩
    have : ¬ (winF d v rs ≤ T ∧ T ≤ winG d v rs) := fun h => by
      rw [atOk_iff.2 ⟨hv, v0, v1, by omega⟩] at hok; cases hok
    omega
  | true =>
    refine ⟨winF d v rs, winG d v rs, 0, fun w hw => at_ok d v rs x w hw hok, ?_⟩
    generalize winF d v rs = f at *
    generalize winG d v rs = g at *
    by_cases h1 : f ≤ T
    · by_cases h2 : T ≤ g
      · have := hm.2 ⟨h1, h2⟩
        exact .inl ⟨this.1, this.2, rfl, h1, h2⟩
      · exact .inr ⟨by omega, .inr (.inr ⟨rfl, h1, by omega⟩)⟩
    · exact .inr ⟨by omega, .inr (.inl ⟨rfl, by omega⟩)⟩
set_option maxRecDepth 100000 in
set_option maxHeartbeats 40000000 in
theorem Inverse_calls (drift start : Int) (rates : List Int) (A : List Rd) (v u : Value) (local_ t : Int) (W : World) (h0 : I64 drift) (h1 : I64 start) (hr : NumsAt W v rates) (hri : ∀ x ∈ rates, I64 x) (hA : RdsAt W u A) (h4 : I64 t) (h5 : I64 local_) :
    Calls Try.prog 7 #[.int .i64 drift, .int .i64 start, v, u, .int .i64 local_, .int .i64 t] W fun e w' => e = .returned (.bool true) ∧ Below W.heap.size W w' := by
  have HM := Lib.hid (fun w (hB : Below W.heap.size W w) => made_any drift start rates A v u w h0 h1 (hr.via hB) hri (hA.via hB))
  have HS := Lib.hid (fun (T : Int) (t0 : 0 ≤ T) (t1 : T ≤ 5000) w (hB : Below W.heap.size W w) => shown_t drift start T rates v w h0 h1 t0 t1 (hr.via hB) hri)
  have HT := Lib.hid (fun w => pick_any t 5000 h4.1 h4.2 (by decide) (by decide) w)
  have HO := Lib.hid (fun w => pick_any local_ 5000 h5.1 h5.2 (by decide) (by decide) w)
  have HP := Lib.hid (fun w => pick_any local_ 21 h5.1 h5.2 (by decide) (by decide) w)
  obtain ⟨t0, t1⟩ := pkN_bounds t (n := 5000) (by decide)
  obtain ⟨o0, o1⟩ := pkN_bounds local_ (n := 5000) (by decide)
  obtain ⟨r0, r1⟩ := pkN_bounds local_ (n := 21) (by decide)
  have HST := Lib.hid (pkN_bounds start (n := 1000) (by decide))
  clear h0 h1 hr hri hA h4 h5
  generalize pkN t 5000 = T at *
  generalize pkN local_ 5000 = O at *
  generalize pkN local_ 21 = R at *
  go_enter Try.func7, Try.ntmps7
  go_wp2_with fail
  refine (sane_any W).mono ?_
  rintro e w1 ⟨rfl, hB⟩
  have HW := Lib.hid hB
  clear hB
  go_wp2_with fail
  refine (HM.out _ HW.out).mono ?_
  rintro e w2 ⟨rs, x, rfl, hm, hx, hB⟩
  have HW := Lib.hid (belowVia hB HW.out)
  have HMD := Lib.hid hm
  have HX := Lib.hid hx
  obtain ⟨xa, xc, hxe, _, _, _⟩ := hx.at_
  subst hxe
  clear hm hx hB
  go_wp2_with fail
  have HW := Lib.hid (belowVia (alloc_below w2 (.cells #[.int .i64 (pkN drift 101), .slice xa rs.length xc] 24)) HW.out)
  have HC := Lib.hid (ClockAt.new (d := pkN drift 101) HX.out)
  clear HX
  generalize w2.alloc (.cells #[.int .i64 (pkN drift 101), .slice xa rs.length xc] 24) = w3 at *
  generalize w2.heap.size = q at *
  refine (HO.out _).mono ?_
  rintro e w4 ⟨rfl, rfl⟩
  go_wp2_with fail
  refine (HT.out _).mono ?_
  rintro e w4 ⟨rfl, rfl⟩
  obtain ⟨a, b, hf, hri⟩ := made_facts HMD.out HST.out.1 HST.out.2 t0 (by omega) (.slice xa rs.length xc)
  have HF := Lib.hid hf
  have HAT := Lib.hid (fun v v0 v1 => at_cases (v := v) (x := .slice xa rs.length xc) HMD.out.valid hri v0 v1)
  clear hf hri HM HMD
  have HS1 := Lib.hid (HS.out T t0 (by omega))
  generalize shownC (pkN drift 101) (pkN start 1000) rates T = L at *
  generalize winF (pkN drift 101) L rs = F at *
  generalize winG (pkN drift 101) L rs = G at *
  generalize pkN drift 101 = d at *
  have c0 := HC.out.c0
  have c1 := HC.out.c1
  go_wp2_with fail
  clear c0 c1
  refine (HF.out.reads _ HC.out.rd).mono ?_
  rintro e w5 ⟨rfl, hB⟩
  have HW := Lib.hid (belowVia hB HW.out)
  have HC := Lib.hid (HC.out.via hB)
  clear hB
  have k3 := HF.out.le
  have k4 := HF.out.lt
  have k5 := HF.out.a0
  have k6 := HF.out.b1
  have k7 := HF.out.l0
  have k8 := HF.out.l1
  go_wp2_with fail
  refine (HS1.out _ HW.out).mono ?_
  rintro e w6 ⟨rfl, rfl⟩
  go_wp2_with fail
  refine (HP.out _).mono ?_
  rintro e w6 ⟨rfl, rfl⟩
  go_wp2_with fail
  have HA := Lib.hid (alloc_below w5 (.cells #[.int .i64 O, .int .i64 (a - 1), .int .i64 a, .int .i64 (b - 1), .int .i64 b, .int .i64 (L + R - 10)] 3))
  have HI : Hid (NumsIn (w5.alloc (.cells #[.int .i64 O, .int .i64 (a - 1), .int .i64 a, .int .i64 (b - 1), .int .i64 b, .int .i64 (L + R - 10)] 3)) (some ⟨w5.heap.size, 0, none⟩) [O, a - 1, a, b - 1, b, L + R - 10]) := nums_new w5 [O, a - 1, a, b - 1, b, L + R - 10] 3
  have HW := Lib.hid (belowVia HA.out HW.out)
  have HC := Lib.hid (HC.out.via HA.out)
  have HBD : Hid (∀ v ∈ [O, a - 1, a, b - 1, b, L + R - 10], -100 ≤ v ∧ v ≤ 20000000) := by
    show ∀ v ∈ _, _
    intro v hv
    simp only [List.mem_cons, List.not_mem_nil, or_false] at hv
    rcases hv with rfl | rfl | rfl | rfl | rfl | rfl <;> omega
  obtain ⟨M, hM⟩ : ∃ M : List Int, M = [O, a - 1, a, b - 1, b, L + R - 10] := ⟨_, rfl⟩
  have HLEN : Hid (M.length = 6) := by show _ = _; rw [hM]; rfl
  rw [← hM] at HI HBD
  clear hM HA
  generalize w5.alloc (.cells #[.int .i64 O, .int .i64 (a - 1), .int .i64 a, .int .i64 (b - 1), .int .i64 b, .int .i64 (L + R - 10)] 3) = w6 at *
  generalize w5.heap.size = p at *
  go_loopw [20] (fun i wr => ∃ k : Nat, k ≤ 6 ∧ i = .int .i64 k ∧ Below w6.heap.size w6 wr) (fun i _ => 6 - (intOf i).toNat)
  case atStart => exact ⟨0, by omega, rfl, Below.refl _ _⟩
  case round =>
    obtain ⟨k, hk, rfl, hB⟩ := hrel
    have HB := Lib.hid hB
    clear hB
    by_cases hlt : k < 6
    · have hlt' : (k : Int) < 6 := by omega
      have hkl : k < M.length := by have := HLEN.out; omega
      obtain ⟨g, o, hgo, hcell⟩ := (HI.out.via HB.out).get hkl
      cases hgo
      have hv := HBD.out (M.getD k 0) (by rw [List.getD_eq_getElem?_getD, List.getElem?_eq_getElem hkl]; exact List.getElem_mem hkl)
      clear hkl
      generalize M.getD k 0 = v at *
      rw [Nat.zero_add] at hcell
      obtain ⟨v0, v1⟩ := hv
      by_cases hz : v < 0
      · go_wp2_with fail
        go_roundw
        case rel => exact ⟨k + 1, by omega, by go_num, HB.out⟩
        case measure => simp [intOf]; omega
      · have hz0 : 0 ≤ v := by omega
        by_cases hz1 : 10000000 < v
        · go_wp2_with fail
          go_roundw
          case rel => exact ⟨k + 1, by omega, by go_num, HB.out⟩
          case measure => simp [intOf]; omega
        · have hz2 : v ≤ 10000000 := by omega
          obtain ⟨lo_, hi_, er, hcall, hcase⟩ := HAT.out v hz0 hz2
          have HAC := Lib.hid hcall
          clear hcall hz hz1
          have hvb : b ≤ v ↔ ¬ v < b := by omega
          have hdec : hi_ < T → decide (T ≤ hi_) = false := fun h => by simpa using h
          rcases hcase with ⟨m1, m2, rfl, m4, m5⟩ | ⟨m1 | m1, rfl | ⟨rfl, m2⟩ | ⟨rfl, m2, m3⟩⟩
          all_goals
            first | (have m6 := hdec m3; clear hdec) | clear hdec
            have hbb : (b - 1 < v ∧ a ≤ v) ∨ (v ≤ b - 1 ∧ a ≤ v) ∨ (v ≤ b - 1 ∧ v < a) := by omega
            clear hvb
            have c0 := HC.out.via HB.out |>.c0
            have c1 := HC.out.via HB.out |>.c1
            rcases hbb with ⟨hbb, hav⟩ | ⟨hbb, hav⟩ | ⟨hbb, hav⟩ <;> first | (exfalso; omega) | skip
            go_wp2_with fail
            go_region_held3 (fun w' => w'.cell? ⟨q, 0, none⟩ = some (.int .i64 d) ∧ w'.cell? ⟨q, 1, none⟩ = some (.slice xa rs.length xc) ∧ w'.cell? ⟨p, k, none⟩ = some (.int .i64 v) ∧ Below wr.heap.size wr w')
              (first | exact ⟨c0, c1, hcell, (Below.refl _ _).drew⟩ | exact s4Keep (by assumption) hB3)
              ((go_at_call 20; (with_reducible refine (HAC.out _ ((HC.out.via HB.out).via (And.right (And.right (And.right (by assumption))))).rd).mono ?_); rintro e u3 ⟨rfl, hB3⟩))
            have HH : Hid (Below wr.heap.size wr u3) := And.right (And.right (And.right (by assumption)))
            replace hcell := keptBelow HH.out hcell
            go_wp2_with fail
            go_roundw
            case rel => exact ⟨k + 1, by omega, by go_num, belowVia HH.out HB.out⟩
            case measure => simp [intOf]; omega
    · obtain rfl : k = 6 := by omega
      go_wp2_with fail
      go_ret
      exact ⟨rfl, belowVia HB.out HW.out⟩
end Go.Proofs.Ytebhalcoemkomaa
