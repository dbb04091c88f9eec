/- The reference's Root on valid integers, and on other texts. -/
import Derived.Test.YtggkbeppfpgkaaaGreatDoorIntRefOps
import Derived.Test.YtggkbeppfpgkaaaGreatDoorIntRootE
namespace Go.Proofs.YtggkbeppfpgkaaaGreatDoor
open Go.RowKit Putlog

set_option maxRecDepth 100000 in
set_option maxHeartbeats 2000000 in
theorem rtrimmed_any (l : List Nat) (hl : l.length ≤ 5000) (hd : DigB 10 l) (v : Value) (w : World) (hv : NumsAt w v l) :
    Calls Tryz.prog 49 #[v] w fun e w' => (∃ r, e = .returned r ∧ NumsAt w' r (digsL 10 (leV 10 l))) ∧ Below w.heap.size w w' := by
  obtain ⟨i0, hi0, hz0, hz1, hz2⟩ := info_parts info_int
  have HI0 := Lib.hid hi0
  have HZ0 := Lib.hid hz0
  have HZ1 := Lib.hid hz1
  have HZ2 := Lib.hid hz2
  obtain ⟨a, c, rfl, hva⟩ := nums_form hv
  have HV := Lib.hid hva
  have HL := Lib.hid hl
  have HNO : Hid (a = none → l = []) := fun e => by
    subst e
    rcases Nat.eq_zero_or_pos l.length with h | h
    · exact List.length_eq_zero_iff.1 h
    · obtain ⟨_, _, h3⟩ := hva.addr
      obtain ⟨g, hg, _⟩ := h3 h
      cases hg
  have HTR : Hid (trimL l = digsL 10 (leV 10 l)) := digs_trim hd rfl
  clear hi0 hz0 hz1 hz2 hv hva hl hd
  go_enter Tryz.func49, Tryz.ntmps49
  go_wp2_with (at_builtin; refine wpList_append_nums rfl _ _ 38 rfl w.heap.size 3 i0 (.int .i64 0) 8 Tryz.underlying38 HI0.out HZ0.out HZ1.out HZ2.out rfl _ 0 [] (by rfl) (World.ownsRow_made w #[] 0 (Nat.le_refl _) (Nat.zero_le _) (by simp)) a c l (by rfl) (nums_add HV.out) HNO.out (by have := HL.out; unfold maxLen; omega) (by have := HL.out; omega) (by simp) ?_; intro v2 w9 hown9 hgrow9)
  have HB9 := Lib.hid (fresh_below hgrow9)
  rw [Nat.zero_add, List.nil_append] at hown9
  have HN9 := Lib.hid (NumsAt.of_owns hown9)
  have hT := fun W h => rtrim_any l (by have := HL.out; omega) v2 W h
  rw [HTR.out] at hT
  have HT := Lib.hid hT
  clear hT hown9 hgrow9
  go_wp2_with fail
  refine (HT.out _ HN9.out).mono ?_
  rintro e w2 ⟨r2, rfl, hr2, rfl⟩
  have HR2 := Lib.hid hr2
  obtain ⟨_, _, rfl, _⟩ := hr2
  go_wp2_with fail
  go_ret
  exact ⟨⟨_, rfl, HR2.out⟩, HB9.out⟩
set_option maxRecDepth 100000 in
theorem rroot_no (s : ByteArray) (hs : (s.size : Int) ≤ 9223372036854775807) (hv : validT s.data.toList = false) (w : World) :
    Calls Tryz.prog 18 #[.string s] w fun e w' => e = .returned (.tuple #[.string ⟨#[]⟩, .int .i64 30]) ∧ Below w.heap.size w w' := by
  have hVs := rvalid_any s hs
  rw [hv] at hVs
  have HVS := Lib.hid hVs
  clear hVs hv
  go_enter Tryz.func18, Tryz.ntmps18
  go_wp2_with fail
  refine (HVS.out _).mono ?_
  rintro e w1 ⟨rfl, rfl⟩
  go_wp2_with fail
  go_ret2
  exact ⟨rfl, Below.refl _ _⟩
theorem int_head {z : Int} : 0 < (intB z).size ∧ ∀ h : 0 < (intB z).size, ((((intB z)[0]).toNat : Int) == 45) = decide (z < 0) := by
  have hl : (intB z).data.toList = intT z := by
    show (intT z).toArray.toList = _
    rw [List.toList_toArray]
  have h1 := (ba_list (intB z)).1
  rw [hl] at h1
  have hne : intT z ≠ [] := by
    unfold intT; split
    · simp
    · exact natT_ne _
  have h0 : 0 < (intB z).size := by have := List.length_pos_iff.2 hne; omega
  refine ⟨h0, fun h => ?_⟩
  have hh := ba_head h
  rw [hl] at hh
  by_cases hz : z < 0
  · unfold intT at hh
    rw [if_pos hz, List.head?_cons] at hh
    rw [← Option.some.inj hh]; simpa using hz
  · unfold intT at hh
    rw [if_neg hz] at hh
    have hd := natT_head_dig z.natAbs
    rw [hh] at hd
    rw [show decide (z < 0) = false by simpa using hz, beq_eq_false_iff_ne]
    intro h45
    exact hd (by rw [show (intB z)[0] = 45 from UInt8.toNat_inj.1 (by rw [show (45 : UInt8).toNat = 45 from rfl]; omega)])
set_option maxRecDepth 100000 in
theorem rroot_neg (x : Int) (hx : Fits x) (h0 : x < 0) (w : World) :
    Calls Tryz.prog 18 #[.string (intB x)] w fun e w' => e = .returned (.tuple #[.string ⟨#[]⟩, .int .i64 30]) ∧ Below w.heap.size w w' := by
  have HVS := Lib.hid (rvalid_int x hx)
  obtain ⟨z0, hz⟩ := int_head (z := x)
  have e45 := hz z0
  rw [show decide (x < 0) = true by simpa using h0] at e45
  have z0' : (0 : Int) < (intB x).size := by omega
  clear hz
  generalize intB x = s at *
  go_enter Tryz.func18, Tryz.ntmps18
  go_wp2_with fail
  refine (HVS.out _).mono ?_
  rintro e w1 ⟨rfl, rfl⟩
  go_wp2_with fail
  go_ret2
  exact ⟨rfl, Below.refl _ _⟩
set_option maxRecDepth 100000 in
set_option maxHeartbeats 4000000 in
theorem rroot_ok (x : Int) (hx : Fits x) (h0 : 0 ≤ x) (w : World) :
    Calls Tryz.prog 18 #[.string (intB x)] w fun e w' => e = .returned (.tuple #[.string (intB (sqrtN x.natAbs : Nat)), .int .i64 0]) ∧ Below w.heap.size w w' := by
  obtain ⟨i0, hi0, hz0, hz1, hz2⟩ := info_parts info_int
  have HI0 := Lib.hid hi0
  have HZ0 := Lib.hid hz0
  have HZ1 := Lib.hid hz1
  have HZ2 := Lib.hid hz2
  have HVS := Lib.hid (rvalid_int x hx)
  have HDX := Lib.hid (rdigits_any x hx)
  obtain ⟨z0, hz⟩ := int_head (z := x)
  have e45 := hz z0
  rw [show decide (x < 0) = false by simp; omega] at e45
  have z0' : (0 : Int) < (intB x).size := by omega
  have hlx := fits_len hx
  have hsf := sqrt_fits hx
  have hC := fun v W h => rchecked_any false (sqrtN x.natAbs) (by have h1 := fits_len hsf; rw [Int.natAbs_natCast] at h1; omega) v W h
  rw [show sgn false (sqrtN x.natAbs) = (sqrtN x.natAbs : Nat) from rfl, okS_fits hsf, okE_fits hsf] at hC
  have HC := Lib.hid hC
  obtain ⟨n, hn⟩ : ∃ n, n = x.natAbs := ⟨_, rfl⟩
  rw [← hn] at HDX HC hlx ⊢
  have HLX := Lib.hid hlx
  obtain ⟨L, hL⟩ : ∃ L, L = (digsL 10 n).length := ⟨_, rfl⟩
  rw [← hL] at hlx
  obtain ⟨h, hh⟩ : ∃ h, h = (L + 1) / 2 := ⟨_, rfl⟩
  have hh2 : ((L : Int) + 1) / 2 = (h : Nat) := by omega
  have hh3 : ((L : Int) + 1).tdiv 2 = (h : Nat) := by rw [Int.tdiv_eq_ediv_of_nonneg (by omega)]; exact hh2
  have hhb : (h : Int) ≤ 101 := by omega
  have hLb : (L : Int) ≤ 200 := by omega
  have hst := RootT.start (n := n) (L := L) (by rw [hL]; exact dlen_of (Nat.le_refl _)) (h := h) (by omega)
  have HLE := Lib.hid hL
  have HST := Lib.hid hst
  generalize decide (x < 0) = bx at *
  generalize intB x = s at *
  clear hi0 hz0 hz1 hz2 hz hsf hC hn hL hh hst hx h0 hlx
  unfold GivesInt at *
  go_enter Tryz.func18, Tryz.ntmps18
  go_wp2_with fail
  refine (HVS.out _).mono ?_
  rintro e w1 ⟨rfl, rfl⟩
  go_wp2_with fail
  refine (HDX.out _).mono ?_
  rintro e w2 ⟨⟨u, rfl, hu⟩, hB2⟩
  have HU := Lib.hid hu
  have HB2 := Lib.hid hB2
  obtain ⟨ua, uc, rfl, _⟩ := nums_form hu
  rw [← HLE.out]
  clear hB2 hu
  go_wp2_with (at_make; go_must (refine wpList_make_full _ rfl _ _ 38 rfl w2.heap.size 3 i0 (.int .i64 0) 1 Tryz.underlying38 HI0.out HZ0.out HZ1.out .i64 .i64 (h : Int) (h : Int) h rfl rfl (by omega) (by omega) (by rw [HZ2.out]; omega) (by unfold maxLen; omega) (Nat.le_refl _) ?_); intro w3 hown hgrow; have HC3 := Lib.hid (cols_made hown); have HB3 := Lib.hid (belowMade hgrow); clear hown hgrow)
  have HN2 : Hid (NumsAt w2 (.slice ua L uc) (digsL 10 n)) := by have := HU.out; rwa [← HLE.out] at this
  rw [ofN_zeros] at HC3
  clear HU
  go_loopw [7] (fun i wr => ∃ (k : Nat) (O : List Nat), k ≤ h ∧ i = .int .i64 ((k : Int) - 1) ∧ RootT n h k O ∧ ColsAt wr w2.heap.size (some ⟨w2.heap.size, 0, none⟩) (ofN O) ∧ Below w2.heap.size w2 wr) (fun i _ => (1 + intOf i).toNat)
  case atStart => exact ⟨h, _, Nat.le_refl _, rfl, HST.out, HC3.out, HB3.out⟩
  case round =>
    clear HC3 HB3 HST
    obtain ⟨k, C, hk, rfl, hR, hcols, hB⟩ := hrel
    have HR := Lib.hid hR
    have HCO := Lib.hid hcols
    have HB := Lib.hid hB
    have hl1 : C.length = h := hR.1
    clear hR hcols hB
    rcases Nat.eq_zero_or_pos k with rfl | hk0
    · have hE := HR.out.done
      have hnums := nums_cols HCO.out (c := h) (by omega) (by omega)
      have hT := rtrim_any C (by omega) _ wr hnums
      rw [hE, hl1] at hT
      have HT := Lib.hid hT
      have HB := Lib.hid (belowVia HB.out HB2.out)
      clear hE hnums hT hl1
      go_wp2_with fail
      refine HT.out.mono ?_
      rintro e w5 ⟨r, rfl, hr, rfl⟩
      have HR2 := Lib.hid hr
      obtain ⟨_, _, rfl, _⟩ := hr
      go_wp2_with fail
      refine (HC.out _ _ HR2.out).mono ?_
      rintro e w6 ⟨rfl, hB6⟩
      have HB6 := Lib.hid (belowVia hB6 HB.out)
      clear hB6
      go_wp2_with fail
      go_ret2
      exact ⟨rfl, HB6.out⟩
    · obtain ⟨q, rfl⟩ : ∃ q, k = q + 1 := ⟨k - 1, by omega⟩
      have hqe : ((q + 1 : Nat) : Int) - 1 = q := by omega
      have hqn : (q : Int) < h := by omega
      rw [hqe]
      have hidx : q < (ofN C).length := by rw [ofN_len]; omega
      obtain ⟨g, hg, hge, hrow⟩ := HCO.out.at hidx
      obtain rfl : w2.heap.size = g := by cases hge; rfl
      obtain ⟨hcx, hfx⟩ := hrow q hidx
      have hrow2 := hrow.set q hidx ((9 : Nat) : Int)
      rw [ofN_set] at hrow2
      have HRW := Lib.hid hrow2
      have HBE := Lib.hid (below_set HB.out hg (i := q) (.int .i64 ((9 : Nat) : Int)))
      have HI := Lib.hid (HR.out.open (by omega))
      have HQ : Hid (q < h) := by show _ < _; omega
      clear hrow hrow2 hge hidx hl1 hqe hk0
      go_wp2_with fail
      go_loopw [] (fun wr => ∃ (d : Nat) (O : List Nat), RootI n h q d O ∧ ColsAt wr w2.heap.size (some ⟨w2.heap.size, 0, none⟩) (ofN O) ∧ Below w2.heap.size w2 wr) (fun wr => cellN wr w2.heap.size q)
      case atStart => exact ⟨9, _, HI.out, .inr ⟨_, hg, rfl, HRW.out⟩, HBE.out⟩
      case round =>
        clear HRW HBE HI hcx hfx HR HCO HB
        obtain ⟨d, O, hI, hcols, hB⟩ := hrel
        have HI := Lib.hid hI
        have HCO := Lib.hid hcols
        have HB := Lib.hid hB
        have hO : O.length = h := hI.1
        have hidx : q < (ofN O).length := by rw [ofN_len, hO]; exact HQ.out
        obtain ⟨g, hg, hge, hrow⟩ := hcols.at hidx
        obtain rfl : w2.heap.size = g := by cases hge; rfl
        obtain ⟨hcx, hfx⟩ := hrow q hidx
        rw [ofN_get, hI.2.2.2.1] at hcx
        have HME := Lib.hid (cellN_of hcx)
        have hd9 : d < 10 := by rw [← hI.2.2.2.1]; exact dig_getD (by decide) hI.2.1 q
        have hd9' : (d : Int) ≤ 9 := by omega
        have HROW := Lib.hid hrow
        have HIX := Lib.hid hidx
        rcases Nat.eq_zero_or_pos d with hd0 | hd0
        · have HRT := Lib.hid (HI.out.close (.inl hd0))
          have hdz : ((d : Int)) = 0 := by omega
          have hdz2 : decide ((0 : Int) < d) = false := by rw [hdz]; rfl
          clear hI hcols hB hrow hge hidx hd9 hd0
          go_wp2_with fail
          go_roundw
          case rel => exact ⟨q, _, by omega, by go_num, HRT.out, HCO.out, HB.out⟩
          case measure => simp [intOf]; omega
        · have hdp : (0 : Int) < d := by omega
          have hnums := nums_cols HCO.out (c := h) (by omega) (by omega)
          rw [hO] at hnums
          have HNO := Lib.hid hnums
          have hlv : (digsL 10 (leV 10 O)).length ≤ 101 := dlen_lt (Nat.lt_of_lt_of_le (leV_lt hI.2.1) (Nat.pow_le_pow_right (by decide) (by omega)))
          have hTR := fun W hv => rtrimmed_any O (by omega) hI.2.1 (.slice (some ⟨w2.heap.size, 0, none⟩) h h) W hv
          have HTR := Lib.hid hTR
          obtain ⟨V, hV⟩ : ∃ V, V = leV 10 O := ⟨_, rfl⟩
          rw [← hV] at HTR hlv
          have HTM := Lib.hid (fun u v W h1 h2 => rtimesN V V (by omega) (by omega) u v W h1 h2)
          obtain ⟨kk, hkk⟩ : ∃ kk, kk = cmpI ((V * V : Nat) : Int) (n : Nat) := ⟨_, rfl⟩
          have hkb : -1 ≤ kk ∧ kk ≤ 1 := by rw [hkk]; unfold cmpI; split <;> (try split) <;> omega
          obtain ⟨hkb1, hkb2⟩ := hkb
          have hO := fun u v W h1 h2 => rcmpN (V * V) n (by have := dlen_mul hlv hlv; omega) (by have := HLX.out; omega) u v W h1 h2
          rw [← hkk] at hO
          have HO := Lib.hid hO
          clear hnums hTR hO
          by_cases hgt : n < V * V
          · have hk1 : 0 < kk := by rw [hkk]; unfold cmpI; rw [if_neg (by omega), if_pos (by omega)]; omega
            have HST := Lib.hid (HI.out.step HQ.out hd0 (by rw [← hV]; exact hgt))
            obtain ⟨d1, rfl⟩ : ∃ d1, d = d1 + 1 := ⟨d - 1, by omega⟩
            clear hI hcols hB hrow hge hidx hd9 hd0 hV hlv hkk hgt hfx
            go_wp2_with fail
            refine (HTR.out _ HNO.out).mono ?_
            rintro e w4 ⟨⟨r4, rfl, hr4⟩, hB4⟩
            have HR4 := Lib.hid hr4
            have HNO4 := Lib.hid (NumsAt.via hB4 HNO.out)
            have HCO4 := Lib.hid (HCO.out.via hB4)
            have HB4 := Lib.hid (belowVia hB4 HB.out)
            obtain ⟨_, _, rfl, _⟩ := hr4
            clear hB4
            go_wp2_with fail
            refine (HTR.out _ HNO4.out).mono ?_
            rintro e w5 ⟨⟨r5, rfl, hr5⟩, hB5⟩
            have HR45 := Lib.hid (NumsAt.via hB5 HR4.out)
            have HR5 := Lib.hid hr5
            have HCO5 := Lib.hid (HCO4.out.via hB5)
            have HB5 := Lib.hid (belowVia hB5 HB4.out)
            obtain ⟨_, _, rfl, _⟩ := hr5
            clear hB5
            go_wp2_with fail
            refine (HTM.out _ _ _ HR45.out HR5.out).mono ?_
            rintro e w6 ⟨⟨r6, rfl, hr6⟩, hB6⟩
            have HR6 := Lib.hid hr6
            have HCO6 := Lib.hid (HCO5.out.via hB6)
            have HB6 := Lib.hid (belowVia hB6 HB5.out)
            have HN6 := Lib.hid (NumsAt.via HB6.out HN2.out)
            obtain ⟨_, _, rfl, _⟩ := hr6
            clear hB6
            go_wp2_with fail
            refine (HO.out _ _ _ HR6.out HN6.out).mono ?_
            rintro e w7 ⟨rfl, hB7⟩
            have HCO7 := Lib.hid (HCO6.out.via hB7)
            have HB7 := Lib.hid (belowVia hB7 HB6.out)
            clear hB7
            have hs7 : q < (ofN O).length := HIX.out
            obtain ⟨g, hg7, hge7, hrow7⟩ := HCO7.out.at hs7
            obtain rfl : w2.heap.size = g := by cases hge7; rfl
            obtain ⟨hcx7, hfx7⟩ := hrow7 q hs7
            have hOq : O.getD q 0 = d1 + 1 := HI.out.2.2.2.1
            rw [ofN_get, hOq] at hcx7
            have hrow8 := hrow7.set q hs7 (d1 : Int)
            rw [ofN_set] at hrow8
            have HRW := Lib.hid hrow8
            have HBE := Lib.hid (below_set HB7.out hg7 (i := q) (.int .i64 (d1 : Nat)))
            have hc9 := (hrow8 q (by rw [ofN_len, List.length_set]; rwa [ofN_len] at hs7)).1
            rw [ofN_get, setN_get _ _ _ _ (by rwa [ofN_len] at hs7), if_pos rfl] at hc9
            have HME2 := Lib.hid (cellN_of hc9)
            rw [Nat.add_sub_cancel] at HST
            clear hs7 hge7 hrow7 hrow8 hc9 hOq
            go_wp2_with fail
            go_roundw
            case rel => exact ⟨d1, _, HST.out, .inr ⟨_, hg7, rfl, HRW.out⟩, HBE.out⟩
            case measure => rw [HME2.out, HME.out]; omega
          · have hk1 : kk ≤ 0 := by rw [hkk]; unfold cmpI; split <;> (try split) <;> omega
            have HRT := Lib.hid (HI.out.close (.inr (by rw [← hV]; omega)))
            clear hI hcols hB hrow hge hidx hd9 hd0 hV hlv hkk hgt
            go_wp2_with fail
            refine (HTR.out _ HNO.out).mono ?_
            rintro e w4 ⟨⟨r4, rfl, hr4⟩, hB4⟩
            have HR4 := Lib.hid hr4
            have HNO4 := Lib.hid (NumsAt.via hB4 HNO.out)
            have HCO4 := Lib.hid (HCO.out.via hB4)
            have HB4 := Lib.hid (belowVia hB4 HB.out)
            obtain ⟨_, _, rfl, _⟩ := hr4
            clear hB4
            go_wp2_with fail
            refine (HTR.out _ HNO4.out).mono ?_
            rintro e w5 ⟨⟨r5, rfl, hr5⟩, hB5⟩
            have HR45 := Lib.hid (NumsAt.via hB5 HR4.out)
            have HR5 := Lib.hid hr5
            have HCO5 := Lib.hid (HCO4.out.via hB5)
            have HB5 := Lib.hid (belowVia hB5 HB4.out)
            obtain ⟨_, _, rfl, _⟩ := hr5
            clear hB5
            go_wp2_with fail
            refine (HTM.out _ _ _ HR45.out HR5.out).mono ?_
            rintro e w6 ⟨⟨r6, rfl, hr6⟩, hB6⟩
            have HR6 := Lib.hid hr6
            have HCO6 := Lib.hid (HCO5.out.via hB6)
            have HB6 := Lib.hid (belowVia hB6 HB5.out)
            have HN6 := Lib.hid (NumsAt.via HB6.out HN2.out)
            obtain ⟨_, _, rfl, _⟩ := hr6
            clear hB6
            go_wp2_with fail
            refine (HO.out _ _ _ HR6.out HN6.out).mono ?_
            rintro e w7 ⟨rfl, hB7⟩
            have HCO7 := Lib.hid (HCO6.out.via hB7)
            have HB7 := Lib.hid (belowVia hB7 HB6.out)
            clear hB7
            go_wp2_with fail
            go_roundw
            case rel => exact ⟨q, _, by omega, by go_num, HRT.out, HCO7.out, HB7.out⟩
            case measure => simp [intOf]; omega
end Go.Proofs.YtggkbeppfpgkaaaGreatDoor
