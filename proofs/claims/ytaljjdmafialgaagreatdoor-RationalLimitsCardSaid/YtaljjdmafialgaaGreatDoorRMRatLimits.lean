/- RationalLimits: what the law's body answers. -/
import Derived.Test.YtaljjdmafialgaaGreatDoorRM4
namespace Go.Proofs.YtaljjdmafialgaaGreatDoor
open Go.RowKit Putlog

theorem ten_step (k : Nat) : intB (10 ^ k) ++ ⟨#[48]⟩ = intB (10 ^ (k + 1)) := by
  rw [intB_ten, intB_ten]
  apply ByteArray.ext
  rw [ByteArray.data_append]
  apply Array.toList_inj.1
  rw [tenT_succ]; simp
theorem ten_size (k : Nat) : (intB (10 ^ k)).size = k + 1 := by
  rw [intB_ten]; show (tenT k).toArray.size = k + 1
  simp [tenT]
theorem sized_ten {n : Nat} (h : n < 200) : Sized (intB (10 ^ n)) := sized_fits (fits_ten h)
set_option maxRecDepth 100000 in
set_option maxHeartbeats 8000000 in
theorem Limits_calls (n m : Int) (W : World) (hn0 : -9223372036854775808 ≤ n) (hn1 : n ≤ 9223372036854775807) (hm0 : -9223372036854775808 ≤ m) (hm1 : m ≤ 9223372036854775807) (hT : TabP W) :
    Calls Tryz.prog 10 #[.int .i64 n, .int .i64 m] W fun e w' => e = .returned (.bool true) ∧ Below W.heap.size W w' := by
  have HP1 := Lib.hid (fun W => pick_q n 200 hn0 hn1 (by decide) (by decide) W)
  have HP2 := Lib.hid (fun W => pick_q m 200 hm0 hm1 (by decide) (by decide) W)
  obtain ⟨a1, a2⟩ := pickN_bounds n (n := 200) (by decide)
  obtain ⟨b1, b2⟩ := pickN_bounds m (n := 200) (by decide)
  obtain ⟨N, hN⟩ : ∃ N : Nat, pickN n 200 = N := ⟨(pickN n 200).toNat, by omega⟩
  obtain ⟨M, hM⟩ : ∃ M : Nat, pickN m 200 = M := ⟨(pickN m 200).toNat, by omega⟩
  rw [hN] at HP1 a1 a2
  rw [hM] at HP2 b1 b2
  have hN2 : N < 200 := by omega
  have hM2 : M < 200 := by omega
  clear hN hM a1 b1 hn0 hn1 hm0 hm1
  have HS := Lib.hid (sane_q W hT)
  have HSN := Lib.hid hN2
  have HSM := Lib.hid hM2
  have s1 : (⟨#[48]⟩ : ByteArray).size = 1 := rfl
  clear hT
  go_enter Tryz.func10, Tryz.ntmps10
  go_wp2_with fail
  refine HS.out.mono ?_
  rintro e w1 ⟨rfl, hB⟩
  have HW := Lib.hid hB
  clear hB
  go_wp2_with fail
  refine (HP1.out w1).mono ?_
  rintro e w2 ⟨rfl, rfl⟩
  go_wp2_with fail
  refine (HP2.out w2).mono ?_
  rintro e w3 ⟨rfl, rfl⟩
  go_wp2_with fail
  go_loopw [6, 7] (fun a i wr => ∃ k : Nat, k ≤ N ∧ i = .int .i64 k ∧ a = .string (intB (10 ^ k)) ∧ wr = w3) (fun _ i _ => N - (intOf i).toNat)
  case atStart => exact ⟨0, by omega, rfl, by rw [show (10 : Int) ^ 0 = 1 from rfl, intB_one], rfl⟩
  case round =>
    obtain ⟨k, hk, rfl, rfl, rfl⟩ := hrel
    by_cases hlt : k < N
    · have hlt' : (k : Int) < N := by omega
      have h1 := ten_step k
      have h2 : ((intB (10 ^ k)).size : Int) ≤ 300 := by rw [ten_size]; omega
      have HT := Lib.hid h1
      clear h1
      generalize intB (10 ^ k) = x at *
      go_wp2_with fail
      go_roundw
      case rel => exact ⟨k + 1, by omega, by go_num, by rw [← HT.out], by simp⟩
      case measure => simp [intOf]; omega
    · obtain rfl : N = k := by omega
      have hle : (N : Int) ≤ N := by omega
      clear hlt hk
      go_wp2_with fail
      go_loopw [8, 9] (fun a i w4 => ∃ k : Nat, k ≤ M ∧ i = .int .i64 k ∧ a = .string (intB (10 ^ k)) ∧ w4 = wr) (fun _ i _ => M - (intOf i).toNat)
      case atStart => exact ⟨0, by omega, rfl, by rw [show (10 : Int) ^ 0 = 1 from rfl, intB_one], rfl⟩
      case round =>
        obtain ⟨k, hk, rfl, rfl, rfl⟩ := hrel
        by_cases hlt : k < M
        · have hlt' : (k : Int) < M := by omega
          have h1 := ten_step k
          have h2 : ((intB (10 ^ k)).size : Int) ≤ 300 := by rw [ten_size]; omega
          have HT := Lib.hid h1
          clear h1
          generalize intB (10 ^ k) = x at *
          go_wp2_with fail
          go_roundw
          case rel => exact ⟨k + 1, by omega, by go_num, by rw [← HT.out], by simp⟩
          case measure => simp [intOf]; omega
        · obtain rfl : M = k := by omega
          have hle2 : (M : Int) ≤ M := by omega
          clear hlt hk
          have zN := sized_ten HSN.out
          have zM := sized_ten HSM.out
          have HMU := Lib.hid (fun W => mul_q (intB (10 ^ N)) ⟨#[49]⟩ (intB (10 ^ M)) ⟨#[49]⟩ zN one_sized zM one_sized W)
          have HDI := Lib.hid (fun W => div_q ⟨#[49]⟩ ⟨#[49]⟩ (intB (10 ^ M)) ⟨#[49]⟩ one_sized one_sized zM one_sized W)
          have fs := fitsQ_small HSM.out
          have HAD := Lib.hid (fun W => add_q (intB (10 ^ N)) ⟨#[49]⟩ (intB (smallQ M).num) (intB (smallQ M).den) zN one_sized (sized_fits fs.1) (sized_fits fs.2) W)
          have HC1 := Lib.hid (fun W => compare_q (intB (10 ^ N)) ⟨#[49]⟩ (intB (10 ^ M)) ⟨#[49]⟩ zN one_sized zM one_sized W)
          have HC2 := Lib.hid (fun W => compare_q (intB (10 ^ N)) ⟨#[49]⟩ (intB (smallQ M).num) (intB (smallQ M).den) zN one_sized (sized_fits fs.1) (sized_fits fs.2) W)
          rw [readQ_ten HSN.out, readQ_ten HSM.out] at HMU HC1
          rw [readQ_one, readQ_ten HSM.out, div_ten HSM.out] at HDI
          rw [readQ_ten HSN.out, readQ_rat fs] at HAD HC2
          have HX1 := Lib.hid (cmp_ten N M)
          have HX2 := Lib.hid (cmp_small N M)
          obtain ⟨fb, hfb⟩ : ∃ fb, fb = decide (N + M < 200) := ⟨_, rfl⟩
          have HM1 : Hid ((fb = true → errQ (mulQ (some (tenQ N)) (some (tenQ M))) = 0) ∧ (fb = false → numB (mulQ (some (tenQ N)) (some (tenQ M))) = ⟨#[]⟩ ∧ denB (mulQ (some (tenQ N)) (some (tenQ M))) = ⟨#[]⟩ ∧ errQ (mulQ (some (tenQ N)) (some (tenQ M))) = 40)) := by
            refine ⟨fun h => ?_, fun h => ?_⟩
            · rw [hfb] at h; rw [mulQ, lift2_ok (okMul_ten.2 (of_decide_eq_true h))]; rfl
            · rw [hfb] at h; rw [mulQ, lift2_no (fun k => (of_decide_eq_false h) (okMul_ten.1 k))]; exact ⟨rfl, rfl, rfl⟩
          have HA1 : Hid ((fb = true → errQ (addQ (some (tenQ N)) (some (smallQ M))) = 0) ∧ (fb = false → errQ (addQ (some (tenQ N)) (some (smallQ M))) = 40)) := by
            refine ⟨fun h => ?_, fun h => ?_⟩
            · rw [hfb] at h; rw [addQ, lift2_ok ((okAdd_ten HSM.out).2 (of_decide_eq_true h))]; rfl
            · rw [hfb] at h; rw [addQ, lift2_no (fun k => (of_decide_eq_false h) ((okAdd_ten HSM.out).1 k))]; rfl
          have hfit : decide ((N : Int) + M + 1 ≤ 200) = fb := by
            rw [hfb]
            by_cases h : N + M < 200
            · rw [decide_eq_true h, decide_eq_true (by omega)]
            · rw [decide_eq_false h, decide_eq_false (by omega)]
          unfold GivesQ at HMU HDI HAD
          generalize numB (mulQ (some (tenQ N)) (some (tenQ M))) = z1 at *
          generalize denB (mulQ (some (tenQ N)) (some (tenQ M))) = z2 at *
          generalize errQ (mulQ (some (tenQ N)) (some (tenQ M))) = e1 at *
          generalize errQ (addQ (some (tenQ N)) (some (smallQ M))) = e2 at *
          generalize numB (addQ (some (tenQ N)) (some (smallQ M))) = y1 at *
          generalize denB (addQ (some (tenQ N)) (some (smallQ M))) = y2 at *
          have HDJ : Hid (∀ W, Calls Tryz.prog 45 #[.agg #[.string ⟨#[49]⟩, .string ⟨#[49]⟩], .agg #[.string (intB (10 ^ M)), .string ⟨#[49]⟩]] W fun e w' => e = .returned (.tuple #[.agg #[.string (intB (smallQ M).num), .string (intB (smallQ M).den)], .int .i64 0]) ∧ Below W.heap.size W w') := HDI.out
          have HCA : Hid (∀ W, Calls Tryz.prog 20 #[.agg #[.string (intB (10 ^ N)), .string ⟨#[49]⟩], .agg #[.string (intB (10 ^ M)), .string ⟨#[49]⟩]] W fun e w' => e = .returned (.int .i64 (cmpR (tenQ N) (tenQ M))) ∧ Below W.heap.size W w') := HC1.out
          have HCB : Hid (∀ W, Calls Tryz.prog 20 #[.agg #[.string (intB (10 ^ N)), .string ⟨#[49]⟩], .agg #[.string (intB (smallQ M).num), .string (intB (smallQ M).den)]] W fun e w' => e = .returned (.int .i64 (cmpR (tenQ N) (smallQ M))) ∧ Below W.heap.size W w') := HC2.out
          clear HC1 HC2 HDI
          generalize cmpR (tenQ N) (tenQ M) = c1 at *
          generalize cmpR (tenQ N) (smallQ M) = c2 at *
          generalize intB (10 ^ N) = tn at *
          generalize intB (10 ^ M) = tm at *
          generalize intB (smallQ M).num = sn at *
          generalize intB (smallQ M).den = sd at *
          clear hfb zN zM fs
          go_wp2_with fail
          refine (is_q tn ⟨#[49]⟩ _).mono ?_
          rintro e w4 ⟨rfl, hB⟩
          have HW := Lib.hid (belowVia hB HW.out)
          clear hB
          go_wp2_with fail
          have BX := Lib.hid (BoxQ.new w4 tn ⟨#[49]⟩)
          have HW := Lib.hid (belowVia (alloc_below w4 (.cells #[.string tn, .string ⟨#[49]⟩] 23)) HW.out)
          generalize w4.alloc (.cells #[.string tn, .string ⟨#[49]⟩] 23) = v4 at *
          generalize w4.heap.size = px at *
          refine (is_q tm ⟨#[49]⟩ _).mono ?_
          rintro e w5 ⟨rfl, hB⟩
          have HW := Lib.hid (belowVia hB HW.out)
          have BX := Lib.hid (BX.out.via hB)
          clear hB
          obtain ⟨x0, x1⟩ := (BX.out.via (alloc_below w5 (.cells #[.string tm, .string ⟨#[49]⟩] 23)))
          obtain ⟨y0, y1'⟩ := BoxQ.new w5 tm ⟨#[49]⟩
          go_wp2_with fail
          have BX := Lib.hid (BX.out.via (alloc_below w5 (.cells #[.string tm, .string ⟨#[49]⟩] 23)))
          have BY := Lib.hid (BoxQ.new w5 tm ⟨#[49]⟩)
          have HW := Lib.hid (belowVia (alloc_below w5 (.cells #[.string tm, .string ⟨#[49]⟩] 23)) HW.out)
          generalize w5.alloc (.cells #[.string tm, .string ⟨#[49]⟩] 23) = v5 at *
          generalize w5.heap.size = py at *
          clear x0 x1 y0 y1'
          refine (HMU.out _).mono ?_
          rintro e w6 ⟨rfl, hB⟩
          have HW := Lib.hid (belowVia hB HW.out)
          have BX := Lib.hid (BX.out.via hB)
          have BY := Lib.hid (BY.out.via hB)
          clear hB
          go_wp2_with fail
          have BX := Lib.hid (BX.out.via (alloc_below w6 (.cells #[.string z1, .string z2] 23)))
          have BY := Lib.hid (BY.out.via (alloc_below w6 (.cells #[.string z1, .string z2] 23)))
          have BZ := Lib.hid (BoxQ.new w6 z1 z2)
          have HW := Lib.hid (belowVia (alloc_below w6 (.cells #[.string z1, .string z2] 23)) HW.out)
          generalize w6.alloc (.cells #[.string z1, .string z2] 23) = v6 at *
          generalize w6.heap.size = pz at *
          have LV := Lib.hid BY.out.lt
          go_cut [14, 15] (fun s14 s15 wx => Hid (∃ q, s14 = .pointer (some ⟨q, 0, none⟩) ∧ BoxQ q sn sd wx) ∧ s15 = .int .i64 0 ∧ BoxQ px tn ⟨#[49]⟩ wx ∧ BoxQ py tm ⟨#[49]⟩ wx ∧ BoxQ pz z1 z2 wx ∧ Below W.heap.size W wx)
          case first =>
            obtain ⟨l0, l1⟩ := BY.out
            have lv := LV.out
            go_region_held3 (fun w' => w'.cell? ⟨py, 0, none⟩ = some (.string tm) ∧ w'.cell? ⟨py, 1, none⟩ = some (.string ⟨#[49]⟩) ∧ Below v6.heap.size v6 w')
              (first | exact ⟨l0, l1, (Below.refl _ _).drew⟩ | exact s3Keep (by assumption) (alloc_below _ _) | exact s3Keep (by assumption) hB1 | exact s3Keep (by assumption) hB3 | exact s3Swap (by assumption) (by omega) (by omega) | exact s3Store (by assumption) (by omega) (by omega)) (first
              | (go_at_call 41; (with_reducible refine (is_q _ _ _).mono ?_); rintro e u1 ⟨rfl, hB1⟩; have M1 : v6.heap.size ≤ u1.heap.size := s3Size (by assumption) hB1; (first | have X1 := pairVia hB1 (pairNew _ _ _ _) | skip))
              | (go_at_call 45; (with_reducible refine (HDJ.out _).mono ?_); rintro e u3 ⟨rfl, hB3⟩; have M3 : v6.heap.size ≤ u3.heap.size := s3Size (by assumption) hB3; (first | have X3 := pairVia hB3 X1 | have X3 := pairVia hB3 (pairNew _ _ _ _) | skip); (first | (obtain ⟨X5, X6, X7, X8⟩ := X3; (try simp only [alloc_size] at X5 X6 X7 X8); (try simp only [drew_size] at X5 X6 X7 X8)) | skip)))
            all_goals
              have HH : Hid (Below v6.heap.size v6 _) := And.right (And.right (by assumption))
              go_wp2_with fail
              go_meet
              case rel => exact ⟨⟨_, rfl, by first | exact BoxQ.new _ _ _ | exact BoxQ.stored X5 X6⟩, rfl, BX.out.via HH.out, BY.out.via HH.out, BZ.out.via HH.out, belowVia HH.out HW.out⟩
          case rest =>
            obtain ⟨hq, rfl, BX, BY, BZ, HW⟩ := hcut
            obtain ⟨q, rfl, BQ⟩ := hq.out
            have BX := Lib.hid BX
            have BY := Lib.hid BY
            have BZ := Lib.hid BZ
            have BQ := Lib.hid BQ
            have HW := Lib.hid HW
            clear hq
            obtain ⟨x0, x1⟩ := BX.out
            obtain ⟨q0, q1⟩ := BQ.out
            go_wp2_with fail
            clear x0 x1 q0 q1
            refine (HAD.out _).mono ?_
            rintro e w7 ⟨rfl, hB⟩
            have HW := Lib.hid (belowVia (alloc_below w7 (.cells #[.string y1, .string y2] 23)) (belowVia hB HW.out))
            have BX := Lib.hid ((BX.out.via hB).via (alloc_below w7 (.cells #[.string y1, .string y2] 23)))
            have BY := Lib.hid ((BY.out.via hB).via (alloc_below w7 (.cells #[.string y1, .string y2] 23)))
            have BZ := Lib.hid ((BZ.out.via hB).via (alloc_below w7 (.cells #[.string y1, .string y2] 23)))
            have BQ := Lib.hid ((BQ.out.via hB).via (alloc_below w7 (.cells #[.string y1, .string y2] 23)))
            obtain ⟨x0, x1⟩ := BX.out
            obtain ⟨t0, t1⟩ := BY.out
            obtain ⟨r0, r1⟩ := BZ.out
            have emp : (z1.toList == []) = (z1.toList == []) := rfl
            clear hB emp
            have HCS : Hid ((N < M ∧ c1 = -1 ∧ c2 = 1) ∨ (M < N ∧ c1 = 1 ∧ c2 = 1) ∨ (M = N ∧ 0 < N ∧ c1 = 0 ∧ c2 = 1) ∨ (N = 0 ∧ M = 0 ∧ c1 = 0 ∧ c2 = 0)) := by
              have g1 := HX1.out
              have g2 := HX2.out
              show _ ∨ _
              split at g1
              · rw [if_neg (by omega)] at g2; omega
              · split at g1
                · rw [if_neg (by omega)] at g2; omega
                · split at g2 <;> omega
            cases fb with
            | true =>
              obtain rfl := HM1.out.1 rfl
              obtain rfl := HA1.out.1 rfl
              clear HM1 HA1
              rcases HCS.out with ⟨h1, rfl, rfl⟩ | ⟨h1, rfl, rfl⟩ | ⟨rfl, h1, rfl, rfl⟩ | ⟨rfl, rfl, rfl, rfl⟩
              · rcases Nat.eq_zero_or_pos N with rfl | hp
                · have hl2 : (0 : Int) < M := by omega
                  clear h1
                  go_wp2_with fail
                  refine (HCA.out _).mono ?_
                  rintro e w8 ⟨rfl, hB⟩
                  have HW8 := Lib.hid (belowVia hB HW.out)
                  obtain ⟨x2, x3⟩ := BX.out.via hB
                  obtain ⟨q2, q3⟩ := BQ.out.via hB
                  clear hB x0 x1 t0 t1 r0 r1
                  go_wp2_with fail
                  refine (HCB.out _).mono ?_
                  rintro e w9 ⟨rfl, hB⟩
                  have HW9 := Lib.hid (belowVia hB HW8.out)
                  clear hB
                  go_wp2_with fail
                  go_ret
                  exact ⟨rfl, HW9.out⟩
                · have hl : (N : Int) < M := by omega
                  have hl2 : (0 : Int) < M := by omega
                  have hl3 : (0 : Int) < N := by omega
                  clear h1 hp
                  go_wp2_with fail
                  refine (HCA.out _).mono ?_
                  rintro e w8 ⟨rfl, hB⟩
                  have HW8 := Lib.hid (belowVia hB HW.out)
                  obtain ⟨x2, x3⟩ := BX.out.via hB
                  obtain ⟨q2, q3⟩ := BQ.out.via hB
                  clear hB x0 x1 t0 t1 r0 r1
                  go_wp2_with fail
                  refine (HCB.out _).mono ?_
                  rintro e w9 ⟨rfl, hB⟩
                  have HW9 := Lib.hid (belowVia hB HW8.out)
                  clear hB
                  go_wp2_with fail
                  go_ret
                  exact ⟨rfl, HW9.out⟩
              · have hl : (M : Int) < N := by omega
                have hl2 : (0 : Int) < N := by omega
                clear h1
                go_wp2_with fail
                refine (HCA.out _).mono ?_
                rintro e w8 ⟨rfl, hB⟩
                have HW8 := Lib.hid (belowVia hB HW.out)
                obtain ⟨x2, x3⟩ := BX.out.via hB
                obtain ⟨q2, q3⟩ := BQ.out.via hB
                clear hB x0 x1 t0 t1 r0 r1
                go_wp2_with fail
                refine (HCB.out _).mono ?_
                rintro e w9 ⟨rfl, hB⟩
                have HW9 := Lib.hid (belowVia hB HW8.out)
                clear hB
                go_wp2_with fail
                go_ret
                exact ⟨rfl, HW9.out⟩
              · have hl2 : (0 : Int) < M := by omega
                clear h1
                go_wp2_with fail
                refine (HCA.out _).mono ?_
                rintro e w8 ⟨rfl, hB⟩
                have HW8 := Lib.hid (belowVia hB HW.out)
                obtain ⟨x2, x3⟩ := BX.out.via hB
                obtain ⟨q2, q3⟩ := BQ.out.via hB
                clear hB x0 x1 t0 t1 r0 r1
                go_wp2_with fail
                refine (HCB.out _).mono ?_
                rintro e w9 ⟨rfl, hB⟩
                have HW9 := Lib.hid (belowVia hB HW8.out)
                clear hB
                go_wp2_with fail
                go_ret
                exact ⟨rfl, HW9.out⟩
              · go_wp2_with fail
                refine (HCA.out _).mono ?_
                rintro e w8 ⟨rfl, hB⟩
                have HW8 := Lib.hid (belowVia hB HW.out)
                obtain ⟨x2, x3⟩ := BX.out.via hB
                obtain ⟨q2, q3⟩ := BQ.out.via hB
                clear hB x0 x1 t0 t1 r0 r1
                go_wp2_with fail
                refine (HCB.out _).mono ?_
                rintro e w9 ⟨rfl, hB⟩
                have HW9 := Lib.hid (belowVia hB HW8.out)
                clear hB
                go_wp2_with fail
                go_ret
                exact ⟨rfl, HW9.out⟩
            | false =>
              obtain ⟨rfl, rfl, rfl⟩ := HM1.out.2 rfl
              obtain rfl := HA1.out.2 rfl
              clear HM1 HA1
              have hge := of_decide_eq_false hfit
              have HGE := Lib.hid hge
              rcases HCS.out with ⟨h1, rfl, rfl⟩ | ⟨h1, rfl, rfl⟩ | ⟨rfl, h1, rfl, rfl⟩ | ⟨rfl, rfl, rfl, rfl⟩
              · rcases Nat.eq_zero_or_pos N with rfl | hp
                · exfalso; omega
                · have hl : (N : Int) < M := by omega
                  have hl2 : (0 : Int) < M := by omega
                  have hl3 : (0 : Int) < N := by omega
                  clear h1 hp hge
                  go_wp2_with fail
                  refine (HCA.out _).mono ?_
                  rintro e w8 ⟨rfl, hB⟩
                  have HW8 := Lib.hid (belowVia hB HW.out)
                  obtain ⟨x2, x3⟩ := BX.out.via hB
                  obtain ⟨q2, q3⟩ := BQ.out.via hB
                  clear hB x0 x1 t0 t1 r0 r1
                  go_wp2_with fail
                  refine (HCB.out _).mono ?_
                  rintro e w9 ⟨rfl, hB⟩
                  have HW9 := Lib.hid (belowVia hB HW8.out)
                  clear hB
                  go_wp2_with fail
                  go_ret
                  exact ⟨rfl, HW9.out⟩
              · have hl : (M : Int) < N := by omega
                have hl2 : (0 : Int) < N := by omega
                clear h1 hge
                go_wp2_with fail
                refine (HCA.out _).mono ?_
                rintro e w8 ⟨rfl, hB⟩
                have HW8 := Lib.hid (belowVia hB HW.out)
                obtain ⟨x2, x3⟩ := BX.out.via hB
                obtain ⟨q2, q3⟩ := BQ.out.via hB
                clear hB x0 x1 t0 t1 r0 r1
                go_wp2_with fail
                refine (HCB.out _).mono ?_
                rintro e w9 ⟨rfl, hB⟩
                have HW9 := Lib.hid (belowVia hB HW8.out)
                clear hB
                go_wp2_with fail
                go_ret
                exact ⟨rfl, HW9.out⟩
              · have hl2 : (0 : Int) < M := by omega
                clear h1 hge
                go_wp2_with fail
                refine (HCA.out _).mono ?_
                rintro e w8 ⟨rfl, hB⟩
                have HW8 := Lib.hid (belowVia hB HW.out)
                obtain ⟨x2, x3⟩ := BX.out.via hB
                obtain ⟨q2, q3⟩ := BQ.out.via hB
                clear hB x0 x1 t0 t1 r0 r1
                go_wp2_with fail
                refine (HCB.out _).mono ?_
                rintro e w9 ⟨rfl, hB⟩
                have HW9 := Lib.hid (belowVia hB HW8.out)
                clear hB
                go_wp2_with fail
                go_ret
                exact ⟨rfl, HW9.out⟩
              · exfalso; omega
end Go.Proofs.YtaljjdmafialgaaGreatDoor
