/- The reference's sum, difference and product of two lists of digits. -/
import Derived.Test.YtggkbeppfpgkaaaGreatDoorIntRefKit
namespace Go.Proofs.YtggkbeppfpgkaaaGreatDoor
open Go.RowKit Putlog

set_option maxRecDepth 100000 in
set_option maxHeartbeats 4000000 in
theorem rplus_any (A B : List Nat) (hA : DigB 10 A) (hB : DigB 10 B) (nA : Norm A) (nB : Norm B) (hlA : A.length ≤ 5000) (hlB : B.length ≤ 5000) (u v : Value) (w : World) (hu : NumsAt w u A) (hv : NumsAt w v B) :
    Calls Tryz.prog 41 #[u, v] w fun e w' => (∃ r, e = .returned r ∧ NumsAt w' r (digsL 10 (leV 10 A + leV 10 B))) ∧ Below w.heap.size w w' := by
  obtain ⟨i0, hi0, hz0, hz1, hz2⟩ := info_parts info_int
  have HI0 := Lib.hid hi0
  have HZ0 := Lib.hid hz0
  have HZ1 := Lib.hid hz1
  have HZ2 := Lib.hid hz2
  obtain ⟨a, ca, rfl, hva⟩ := nums_form hu
  obtain ⟨b, cb, rfl, hvb⟩ := nums_form hv
  obtain ⟨hra1, _, hva⟩ := hva.addr
  obtain ⟨hrb1, _, hvb⟩ := hvb.addr
  have HDA := Lib.hid hA
  have HDB := Lib.hid hB
  have HNA := Lib.hid nA
  have HNB := Lib.hid nB
  have HVA := Lib.hid hva
  have HVB := Lib.hid hvb
  obtain ⟨n, hn⟩ : ∃ n, n = A.length := ⟨_, rfl⟩
  obtain ⟨m, hm⟩ : ∃ m, m = B.length := ⟨_, rfl⟩
  have hnb : (n : Int) ≤ 5000 := by omega
  have hmb : (m : Int) ≤ 5000 := by omega
  rw [← hn] at hra1 ⊢
  rw [← hm] at hrb1 ⊢
  have HN := Lib.hid hn
  have HM := Lib.hid hm
  clear hi0 hz0 hz1 hz2 hA hB nA nB hlA hlB hu hv hva hvb hn hm
  go_enter Tryz.func41, Tryz.ntmps41
  go_wp2_with fail
  go_loopw [5, 6, 7] (fun v c i wr => ∃ (k cc : Nat) (l : List Nat), i = .int .i64 k ∧ c = .int .i64 cc ∧ PlusT A B k l cc ∧ wr.ownsRow w.heap.size 3 1 v l.length (i64l l) ∧ Below w.heap.size w wr) (fun _ c i _ => 2 * (n + m - (intOf i).toNat) + (intOf c).toNat)
  case atStart => exact ⟨0, 0, [], rfl, rfl, PlusT.start A B, World.ownsRow_nil _ _ _ _, Below.refl _ _⟩
  case round =>
    obtain ⟨k, cc, y, rfl, rfl, hP, hown, hB⟩ := hrel
    have HP := Lib.hid hP
    have HO := Lib.hid hown
    have HB := Lib.hid hB
    have hcb : (cc : Int) ≤ 1 := by have := hP.2.2.2.1; omega
    have hlen := hP.1
    clear hP hown hB
    have HS : Hid (∀ (h : k < A.length ∨ k < B.length ∨ 0 < cc), PlusT A B (k + 1) (y ++ [(cc + A.getD k 0 + B.getD k 0) % 10]) ((cc + A.getD k 0 + B.getD k 0) / 10) ∧ k ≤ A.length + B.length) := fun h => ⟨HP.out.step HDA.out HDB.out HNA.out HNB.out h, HP.out.small h⟩
    by_cases hka : k < n
    · by_cases hkb : k < m
      · skip
        obtain ⟨hst, hsm⟩ := HS.out (.inl (by have := HN.out; omega))
        have hbig : k ≤ 10000 := by have := HN.out; have := HM.out; omega
        have hsm2 : k ≤ n + m := by have := HN.out; have := HM.out; omega
        have hkbig : (k : Int) ≤ 10000 := by omega
        obtain ⟨ga, rfl, hca⟩ := HVA.out (by have := HN.out; omega)
        have hcx := keptBelow HB.out (hca k (by have := HN.out; omega))
        have hxa := dig_getD (by decide) HDA.out k
        have hxa' : ((A.getD k 0 : Nat) : Int) ≤ 9 := by omega
        have hka' : (k : Int) < n := by omega
        obtain ⟨gb, rfl, hcb2⟩ := HVB.out (by have := HM.out; omega)
        have hcy := keptBelow HB.out (hcb2 k (by have := HM.out; omega))
        have hxb := dig_getD (by decide) HDB.out k
        have hxb' : ((B.getD k 0 : Nat) : Int) ≤ 9 := by omega
        have hkb' : (k : Int) < m := by omega
        obtain ⟨d, hd⟩ : ∃ d, d = (cc + A.getD k 0 + B.getD k 0) % 10 := ⟨_, rfl⟩
        obtain ⟨q, hq⟩ : ∃ q, q = (cc + A.getD k 0 + B.getD k 0) / 10 := ⟨_, rfl⟩
        rw [← hd, ← hq] at hst
        have hm1 : ((cc : Int) + ((A.getD k 0 : Nat) : Int) + ((B.getD k 0 : Nat) : Int)) % 10 = (d : Nat) := by omega
        have hm2 : ((cc : Int) + ((A.getD k 0 : Nat) : Int) + ((B.getD k 0 : Nat) : Int)).tmod 10 = (d : Nat) := by rw [Int.tmod_eq_emod_of_nonneg (by omega)]; exact hm1
        have hm3 : ((cc : Int) + ((A.getD k 0 : Nat) : Int) + ((B.getD k 0 : Nat) : Int)) / 10 = (q : Nat) := by omega
        have hm4 : ((cc : Int) + ((A.getD k 0 : Nat) : Int) + ((B.getD k 0 : Nat) : Int)).tdiv 10 = (q : Nat) := by rw [Int.tdiv_eq_ediv_of_nonneg (by omega)]; exact hm3
        have hd9 : (d : Int) ≤ 9 := by omega
        have hq9 : (q : Int) ≤ 1 := by have := hst.2.2.2.1; omega
        have hmes : 2 * (n + m - (k + 1)) + q < 2 * (n + m - k) + cc := by have h1 := HN.out; have h2 := HM.out; have h3 := hst.2.2.2.2.2; have h4 := hst.2.2.2.1; omega
        have HMES := Lib.hid hmes
        have HST := Lib.hid hst
        have HK : Hid (y.length ≤ 100000) := by show _ ≤ _; omega
        clear hst hd hq hsm hsm2 hlen hmes hbig hca hxa hcb2 hxb
        generalize A.getD k 0 = xa at *
        generalize B.getD k 0 = xb at *
        go_wp2_with (at_builtin; refine wpList_append_own _ rfl _ _ 38 rfl w.heap.size 3 i0 (.int .i64 0) 1 8 Tryz.underlying38 HI0.out HZ0.out HZ1.out HZ2.out rfl (by decide) u5 y.length (i64l y) (by rfl) (HO.out.alloc _) ⟨wr.heap.size, 0, none⟩ 1 1 [.int .i64 (d : Nat)] (by rfl) rfl (news_val _ _ _) (one_int _ _) (app_b1 HK.out) (app_b2 HK.out (by decide)) (app_b3 HB.out) ?_; intro v2 w9 hown9 hgrow9 _)
        have HF := Lib.hid (app_i64 (b := d) HO.out HB.out hown9 hgrow9)
        clear hown9 hgrow9
        go_wp2_with fail
        go_roundw
        case rel => exact ⟨k + 1, q, _, by go_num, by go_num, HST.out, HF.out.1, HF.out.2⟩
        case measure => have := HMES.out; simp [intOf]; omega
      · skip
        obtain ⟨hst, hsm⟩ := HS.out (.inl (by have := HN.out; omega))
        have hbig : k ≤ 10000 := by have := HN.out; have := HM.out; omega
        have hsm2 : k ≤ n + m := by have := HN.out; have := HM.out; omega
        have hkbig : (k : Int) ≤ 10000 := by omega
        obtain ⟨ga, rfl, hca⟩ := HVA.out (by have := HN.out; omega)
        have hcx := keptBelow HB.out (hca k (by have := HN.out; omega))
        have hxa := dig_getD (by decide) HDA.out k
        have hxa' : ((A.getD k 0 : Nat) : Int) ≤ 9 := by omega
        have hka' : (k : Int) < n := by omega
        rw [getD_far (l := B) (k := k) (by have := HM.out; omega)] at hst
        simp only [Nat.add_zero] at hst
        have hkb' : (m : Int) ≤ k := by omega
        obtain ⟨d, hd⟩ : ∃ d, d = (cc + A.getD k 0) % 10 := ⟨_, rfl⟩
        obtain ⟨q, hq⟩ : ∃ q, q = (cc + A.getD k 0) / 10 := ⟨_, rfl⟩
        rw [← hd, ← hq] at hst
        have hm1 : ((cc : Int) + ((A.getD k 0 : Nat) : Int)) % 10 = (d : Nat) := by omega
        have hm2 : ((cc : Int) + ((A.getD k 0 : Nat) : Int)).tmod 10 = (d : Nat) := by rw [Int.tmod_eq_emod_of_nonneg (by omega)]; exact hm1
        have hm3 : ((cc : Int) + ((A.getD k 0 : Nat) : Int)) / 10 = (q : Nat) := by omega
        have hm4 : ((cc : Int) + ((A.getD k 0 : Nat) : Int)).tdiv 10 = (q : Nat) := by rw [Int.tdiv_eq_ediv_of_nonneg (by omega)]; exact hm3
        have hd9 : (d : Int) ≤ 9 := by omega
        have hq9 : (q : Int) ≤ 1 := by have := hst.2.2.2.1; omega
        have hmes : 2 * (n + m - (k + 1)) + q < 2 * (n + m - k) + cc := by have h1 := HN.out; have h2 := HM.out; have h3 := hst.2.2.2.2.2; have h4 := hst.2.2.2.1; omega
        have HMES := Lib.hid hmes
        have HST := Lib.hid hst
        have HK : Hid (y.length ≤ 100000) := by show _ ≤ _; omega
        clear hst hd hq hsm hsm2 hlen hmes hbig hca hxa
        generalize A.getD k 0 = xa at *
        go_wp2_with (at_builtin; refine wpList_append_own _ rfl _ _ 38 rfl w.heap.size 3 i0 (.int .i64 0) 1 8 Tryz.underlying38 HI0.out HZ0.out HZ1.out HZ2.out rfl (by decide) u5 y.length (i64l y) (by rfl) (HO.out.alloc _) ⟨wr.heap.size, 0, none⟩ 1 1 [.int .i64 (d : Nat)] (by rfl) rfl (news_val _ _ _) (one_int _ _) (app_b1 HK.out) (app_b2 HK.out (by decide)) (app_b3 HB.out) ?_; intro v2 w9 hown9 hgrow9 _)
        have HF := Lib.hid (app_i64 (b := d) HO.out HB.out hown9 hgrow9)
        clear hown9 hgrow9
        go_wp2_with fail
        go_roundw
        case rel => exact ⟨k + 1, q, _, by go_num, by go_num, HST.out, HF.out.1, HF.out.2⟩
        case measure => have := HMES.out; simp [intOf]; omega
    · by_cases hkb : k < m
      · skip
        obtain ⟨hst, hsm⟩ := HS.out (.inr (.inl (by have := HM.out; omega)))
        have hbig : k ≤ 10000 := by have := HN.out; have := HM.out; omega
        have hsm2 : k ≤ n + m := by have := HN.out; have := HM.out; omega
        have hkbig : (k : Int) ≤ 10000 := by omega
        rw [getD_far (l := A) (k := k) (by have := HN.out; omega)] at hst
        simp only [Nat.add_zero] at hst
        have hka' : (n : Int) ≤ k := by omega
        obtain ⟨gb, rfl, hcb2⟩ := HVB.out (by have := HM.out; omega)
        have hcy := keptBelow HB.out (hcb2 k (by have := HM.out; omega))
        have hxb := dig_getD (by decide) HDB.out k
        have hxb' : ((B.getD k 0 : Nat) : Int) ≤ 9 := by omega
        have hkb' : (k : Int) < m := by omega
        obtain ⟨d, hd⟩ : ∃ d, d = (cc + B.getD k 0) % 10 := ⟨_, rfl⟩
        obtain ⟨q, hq⟩ : ∃ q, q = (cc + B.getD k 0) / 10 := ⟨_, rfl⟩
        rw [← hd, ← hq] at hst
        have hm1 : ((cc : Int) + ((B.getD k 0 : Nat) : Int)) % 10 = (d : Nat) := by omega
        have hm2 : ((cc : Int) + ((B.getD k 0 : Nat) : Int)).tmod 10 = (d : Nat) := by rw [Int.tmod_eq_emod_of_nonneg (by omega)]; exact hm1
        have hm3 : ((cc : Int) + ((B.getD k 0 : Nat) : Int)) / 10 = (q : Nat) := by omega
        have hm4 : ((cc : Int) + ((B.getD k 0 : Nat) : Int)).tdiv 10 = (q : Nat) := by rw [Int.tdiv_eq_ediv_of_nonneg (by omega)]; exact hm3
        have hd9 : (d : Int) ≤ 9 := by omega
        have hq9 : (q : Int) ≤ 1 := by have := hst.2.2.2.1; omega
        have hmes : 2 * (n + m - (k + 1)) + q < 2 * (n + m - k) + cc := by have h1 := HN.out; have h2 := HM.out; have h3 := hst.2.2.2.2.2; have h4 := hst.2.2.2.1; omega
        have HMES := Lib.hid hmes
        have HST := Lib.hid hst
        have HK : Hid (y.length ≤ 100000) := by show _ ≤ _; omega
        clear hst hd hq hsm hsm2 hlen hmes hbig hcb2 hxb
        generalize B.getD k 0 = xb at *
        go_wp2_with (at_builtin; refine wpList_append_own _ rfl _ _ 38 rfl w.heap.size 3 i0 (.int .i64 0) 1 8 Tryz.underlying38 HI0.out HZ0.out HZ1.out HZ2.out rfl (by decide) u5 y.length (i64l y) (by rfl) (HO.out.alloc _) ⟨wr.heap.size, 0, none⟩ 1 1 [.int .i64 (d : Nat)] (by rfl) rfl (news_val _ _ _) (one_int _ _) (app_b1 HK.out) (app_b2 HK.out (by decide)) (app_b3 HB.out) ?_; intro v2 w9 hown9 hgrow9 _)
        have HF := Lib.hid (app_i64 (b := d) HO.out HB.out hown9 hgrow9)
        clear hown9 hgrow9
        go_wp2_with fail
        go_roundw
        case rel => exact ⟨k + 1, q, _, by go_num, by go_num, HST.out, HF.out.1, HF.out.2⟩
        case measure => have := HMES.out; simp [intOf]; omega
      · by_cases hc : 0 < cc
        · skip
          have hc' : (0 : Int) < cc := by omega
          obtain ⟨hst, hsm⟩ := HS.out (.inr (.inr hc))
          have hbig : k ≤ 10000 := by have := HN.out; have := HM.out; omega
          have hsm2 : k ≤ n + m := by have := HN.out; have := HM.out; omega
          have hkbig : (k : Int) ≤ 10000 := by omega
          rw [getD_far (l := A) (k := k) (by have := HN.out; omega)] at hst
          simp only [Nat.add_zero] at hst
          have hka' : (n : Int) ≤ k := by omega
          rw [getD_far (l := B) (k := k) (by have := HM.out; omega)] at hst
          simp only [Nat.add_zero] at hst
          have hkb' : (m : Int) ≤ k := by omega
          obtain ⟨d, hd⟩ : ∃ d, d = (cc) % 10 := ⟨_, rfl⟩
          obtain ⟨q, hq⟩ : ∃ q, q = (cc) / 10 := ⟨_, rfl⟩
          rw [← hd, ← hq] at hst
          have hm1 : ((cc : Int)) % 10 = (d : Nat) := by omega
          have hm2 : ((cc : Int)).tmod 10 = (d : Nat) := by rw [Int.tmod_eq_emod_of_nonneg (by omega)]; exact hm1
          have hm3 : ((cc : Int)) / 10 = (q : Nat) := by omega
          have hm4 : ((cc : Int)).tdiv 10 = (q : Nat) := by rw [Int.tdiv_eq_ediv_of_nonneg (by omega)]; exact hm3
          have hd9 : (d : Int) ≤ 9 := by omega
          have hq9 : (q : Int) ≤ 1 := by have := hst.2.2.2.1; omega
          have hmes : 2 * (n + m - (k + 1)) + q < 2 * (n + m - k) + cc := by have h1 := HN.out; have h2 := HM.out; have h3 := hst.2.2.2.2.2; have h4 := hst.2.2.2.1; omega
          have HMES := Lib.hid hmes
          have HST := Lib.hid hst
          have HK : Hid (y.length ≤ 100000) := by show _ ≤ _; omega
          clear hst hd hq hsm hsm2 hlen hmes hbig
          go_wp2_with (at_builtin; refine wpList_append_own _ rfl _ _ 38 rfl w.heap.size 3 i0 (.int .i64 0) 1 8 Tryz.underlying38 HI0.out HZ0.out HZ1.out HZ2.out rfl (by decide) u5 y.length (i64l y) (by rfl) (HO.out.alloc _) ⟨wr.heap.size, 0, none⟩ 1 1 [.int .i64 (d : Nat)] (by rfl) rfl (news_val _ _ _) (one_int _ _) (app_b1 HK.out) (app_b2 HK.out (by decide)) (app_b3 HB.out) ?_; intro v2 w9 hown9 hgrow9 _)
          have HF := Lib.hid (app_i64 (b := d) HO.out HB.out hown9 hgrow9)
          clear hown9 hgrow9
          go_wp2_with fail
          go_roundw
          case rel => exact ⟨k + 1, q, _, by go_num, by go_num, HST.out, HF.out.1, HF.out.2⟩
          case measure => have := HMES.out; simp [intOf]; omega
        · obtain rfl : cc = 0 := by omega
          have hka' : (n : Int) ≤ k := by omega
          have hkb' : (m : Int) ≤ k := by omega
          have HE := Lib.hid (HP.out.done (by have := HN.out; omega) (by have := HM.out; omega))
          go_wp2_with fail
          go_ret
          refine ⟨⟨_, rfl, ?_⟩, HB.out⟩
          rw [← HE.out]
          exact NumsAt.of_owns HO.out

set_option maxRecDepth 100000 in
set_option maxHeartbeats 4000000 in
theorem rminus_any (A B : List Nat) (hA : DigB 10 A) (hB : DigB 10 B) (nB : Norm B) (hlA : A.length ≤ 5000) (hle : leV 10 B ≤ leV 10 A) (u v : Value) (w : World) (hu : NumsAt w u A) (hv : NumsAt w v B) :
    Calls Tryz.prog 42 #[u, v] w fun e w' => (∃ r, e = .returned r ∧ NumsNew w' w.heap.size r (digsL 10 (leV 10 A - leV 10 B))) ∧ Below w.heap.size w w' := by
  obtain ⟨i0, hi0, hz0, hz1, hz2⟩ := info_parts info_int
  have HI0 := Lib.hid hi0
  have HZ0 := Lib.hid hz0
  have HZ1 := Lib.hid hz1
  have HZ2 := Lib.hid hz2
  obtain ⟨a, ca, rfl, hva⟩ := nums_form hu
  obtain ⟨b, cb, rfl, hvb⟩ := nums_form hv
  obtain ⟨hra1, _, hva⟩ := hva.addr
  obtain ⟨hrb1, hrb2, hvb⟩ := hvb.addr
  have HDA := Lib.hid hA
  have HDB := Lib.hid hB
  have HNB := Lib.hid nB
  have HVA := Lib.hid hva
  have HVB := Lib.hid hvb
  have HLE := Lib.hid hle
  obtain ⟨n, hn⟩ : ∃ n, n = A.length := ⟨_, rfl⟩
  obtain ⟨m, hm⟩ : ∃ m, m = B.length := ⟨_, rfl⟩
  have hnb : (n : Int) ≤ 5000 := by omega
  have hmb : (m : Int) ≤ 9223372036854775807 := by omega
  rw [← hn] at hra1 ⊢
  rw [← hm] at hrb1 ⊢
  have HN := Lib.hid hn
  have HM := Lib.hid hm
  clear hi0 hz0 hz1 hz2 hA hB nB hlA hle hu hv hva hvb hn hm hrb2
  go_enter Tryz.func42, Tryz.ntmps42
  go_wp2_with fail
  go_loopw [5, 6, 7] (fun v c i wr => ∃ (k cc : Nat) (l : List Nat), k ≤ n ∧ i = .int .i64 k ∧ c = .int .i64 cc ∧ MinusT A B k l cc ∧ wr.ownsRow w.heap.size 3 1 v l.length (i64l l) ∧ Below w.heap.size w wr) (fun _ _ i _ => n - (intOf i).toNat)
  case atStart => exact ⟨0, 0, [], by omega, rfl, rfl, MinusT.start A B, World.ownsRow_nil _ _ _ _, Below.refl _ _⟩
  case round =>
    obtain ⟨k, cc, y, hk, rfl, rfl, hP, hown, hB⟩ := hrel
    have HP := Lib.hid hP
    have HO := Lib.hid hown
    have HB := Lib.hid hB
    have hcb : (cc : Int) ≤ 1 := by have := hP.2.2.2; omega
    have hlen := hP.1
    have hkbig : (k : Int) ≤ 5000 := by omega
    have HK : Hid (y.length ≤ 100000) := by show _ ≤ _; omega
    clear hP hown hB hlen
    by_cases hka : k < n
    · obtain ⟨ga, rfl, hca⟩ := HVA.out (by have := HN.out; omega)
      have hcx := keptBelow HB.out (hca k (by have := HN.out; omega))
      have hxa := dig_getD (by decide) HDA.out k
      have hxa' : ((A.getD k 0 : Nat) : Int) ≤ 9 := by omega
      have hka' : (k : Int) < n := by omega
      have hxb := dig_getD (by decide) HDB.out k
      have hxb' : ((B.getD k 0 : Nat) : Int) ≤ 9 := by omega
      clear hca hxa
      by_cases hkb : k < m
      · by_cases hlow : A.getD k 0 < cc + B.getD k 0
        · skip
          obtain ⟨gb, rfl, hcb2⟩ := HVB.out (by have := HM.out; omega)
          have hcy := keptBelow HB.out (hcb2 k (by have := HM.out; omega))
          have hkb' : (k : Int) < m := by omega
          clear hcb2
          have hst := (HP.out.low HDA.out hlow).resolve_right (by omega)
          obtain ⟨d, hd⟩ : ∃ d, d = (A.getD k 0 + 10 - (cc + B.getD k 0)) := ⟨_, rfl⟩
          rw [← hd] at hst
          have hneg : (((A.getD k 0 : Nat) : Int) - (cc : Int) - ((B.getD k 0 : Nat) : Int)) < 0 := by omega
          have hval : (((A.getD k 0 : Nat) : Int) - (cc : Int) - ((B.getD k 0 : Nat) : Int)) + 10 = (d : Nat) := by omega
          have hd9 : (d : Int) ≤ 9 := by omega
          have HST := Lib.hid hst
          clear hst hd hlow hxb
          generalize A.getD k 0 = xa at *
          generalize B.getD k 0 = xb at *
          go_wp2_with (at_builtin; refine wpList_append_own _ rfl _ _ 38 rfl w.heap.size 3 i0 (.int .i64 0) 1 8 Tryz.underlying38 HI0.out HZ0.out HZ1.out HZ2.out rfl (by decide) u5 y.length (i64l y) (by rfl) (HO.out.alloc _) ⟨wr.heap.size, 0, none⟩ 1 1 [.int .i64 (d : Nat)] (by rfl) rfl (news_val _ _ _) (one_int _ _) (app_b1 HK.out) (app_b2 HK.out (by decide)) (app_b3 HB.out) ?_; intro v2 w9 hown9 hgrow9 _)
          have HF := Lib.hid (app_i64 (b := d) HO.out HB.out hown9 hgrow9)
          clear hown9 hgrow9
          go_wp2_with fail
          go_roundw
          case rel => exact ⟨k + 1, 1, _, by omega, by go_num, by go_num, HST.out, HF.out.1, HF.out.2⟩
          case measure => simp [intOf]; omega
        · have hhigh : cc + B.getD k 0 ≤ A.getD k 0 := by omega
          clear hlow
          obtain ⟨gb, rfl, hcb2⟩ := HVB.out (by have := HM.out; omega)
          have hcy := keptBelow HB.out (hcb2 k (by have := HM.out; omega))
          have hkb' : (k : Int) < m := by omega
          clear hcb2
          have hst := HP.out.high HDA.out (by omega)
          obtain ⟨d, hd⟩ : ∃ d, d = (A.getD k 0 - (cc + B.getD k 0)) := ⟨_, rfl⟩
          rw [← hd] at hst
          have hneg : ¬ (((A.getD k 0 : Nat) : Int) - (cc : Int) - ((B.getD k 0 : Nat) : Int)) < 0 := by omega
          have hval : (((A.getD k 0 : Nat) : Int) - (cc : Int) - ((B.getD k 0 : Nat) : Int)) = (d : Nat) := by omega
          have hd9 : (d : Int) ≤ 9 := by omega
          have HST := Lib.hid hst
          clear hst hd hhigh hxb
          generalize A.getD k 0 = xa at *
          generalize B.getD k 0 = xb at *
          go_wp2_with (at_builtin; refine wpList_append_own _ rfl _ _ 38 rfl w.heap.size 3 i0 (.int .i64 0) 1 8 Tryz.underlying38 HI0.out HZ0.out HZ1.out HZ2.out rfl (by decide) u5 y.length (i64l y) (by rfl) (HO.out.alloc _) ⟨wr.heap.size, 0, none⟩ 1 1 [.int .i64 (d : Nat)] (by rfl) rfl (news_val _ _ _) (one_int _ _) (app_b1 HK.out) (app_b2 HK.out (by decide)) (app_b3 HB.out) ?_; intro v2 w9 hown9 hgrow9 _)
          have HF := Lib.hid (app_i64 (b := d) HO.out HB.out hown9 hgrow9)
          clear hown9 hgrow9
          go_wp2_with fail
          go_roundw
          case rel => exact ⟨k + 1, 0, _, by omega, by go_num, by go_num, HST.out, HF.out.1, HF.out.2⟩
          case measure => simp [intOf]; omega
      · by_cases hlow : A.getD k 0 < cc + B.getD k 0
        · skip
          have hkb' : (m : Int) ≤ k := by omega
          have hst := (HP.out.low HDA.out hlow).resolve_right (by omega)
          rw [getD_far (l := B) (k := k) (by have := HM.out; omega)] at hst
          have hz0 : B.getD k 0 = 0 := getD_far (by have := HM.out; omega)
          rw [hz0] at hlow
          obtain ⟨d, hd⟩ : ∃ d, d = (A.getD k 0 + 10 - (cc + 0)) := ⟨_, rfl⟩
          rw [← hd] at hst
          have hneg : (((A.getD k 0 : Nat) : Int) - (cc : Int)) < 0 := by omega
          have hval : (((A.getD k 0 : Nat) : Int) - (cc : Int)) + 10 = (d : Nat) := by omega
          have hd9 : (d : Int) ≤ 9 := by omega
          have HST := Lib.hid hst
          clear hst hd hlow hxb hz0 hxb'
          generalize A.getD k 0 = xa at *
          go_wp2_with (at_builtin; refine wpList_append_own _ rfl _ _ 38 rfl w.heap.size 3 i0 (.int .i64 0) 1 8 Tryz.underlying38 HI0.out HZ0.out HZ1.out HZ2.out rfl (by decide) u5 y.length (i64l y) (by rfl) (HO.out.alloc _) ⟨wr.heap.size, 0, none⟩ 1 1 [.int .i64 (d : Nat)] (by rfl) rfl (news_val _ _ _) (one_int _ _) (app_b1 HK.out) (app_b2 HK.out (by decide)) (app_b3 HB.out) ?_; intro v2 w9 hown9 hgrow9 _)
          have HF := Lib.hid (app_i64 (b := d) HO.out HB.out hown9 hgrow9)
          clear hown9 hgrow9
          go_wp2_with fail
          go_roundw
          case rel => exact ⟨k + 1, 1, _, by omega, by go_num, by go_num, HST.out, HF.out.1, HF.out.2⟩
          case measure => simp [intOf]; omega
        · have hhigh : cc + B.getD k 0 ≤ A.getD k 0 := by omega
          clear hlow
          have hkb' : (m : Int) ≤ k := by omega
          have hst := HP.out.high HDA.out (by omega)
          rw [getD_far (l := B) (k := k) (by have := HM.out; omega)] at hst
          have hz0 : B.getD k 0 = 0 := getD_far (by have := HM.out; omega)
          rw [hz0] at hhigh
          obtain ⟨d, hd⟩ : ∃ d, d = (A.getD k 0 - (cc + 0)) := ⟨_, rfl⟩
          rw [← hd] at hst
          have hneg : ¬ (((A.getD k 0 : Nat) : Int) - (cc : Int)) < 0 := by omega
          have hval : (((A.getD k 0 : Nat) : Int) - (cc : Int)) = (d : Nat) := by omega
          have hd9 : (d : Int) ≤ 9 := by omega
          have HST := Lib.hid hst
          clear hst hd hhigh hxb hz0 hxb'
          generalize A.getD k 0 = xa at *
          go_wp2_with (at_builtin; refine wpList_append_own _ rfl _ _ 38 rfl w.heap.size 3 i0 (.int .i64 0) 1 8 Tryz.underlying38 HI0.out HZ0.out HZ1.out HZ2.out rfl (by decide) u5 y.length (i64l y) (by rfl) (HO.out.alloc _) ⟨wr.heap.size, 0, none⟩ 1 1 [.int .i64 (d : Nat)] (by rfl) rfl (news_val _ _ _) (one_int _ _) (app_b1 HK.out) (app_b2 HK.out (by decide)) (app_b3 HB.out) ?_; intro v2 w9 hown9 hgrow9 _)
          have HF := Lib.hid (app_i64 (b := d) HO.out HB.out hown9 hgrow9)
          clear hown9 hgrow9
          go_wp2_with fail
          go_roundw
          case rel => exact ⟨k + 1, 0, _, by omega, by go_num, by go_num, HST.out, HF.out.1, HF.out.2⟩
          case measure => simp [intOf]; omega
    · obtain rfl : k = n := by omega
      have hP := HP.out
      rw [HN.out] at hP
      have hE := hP.done HDA.out HNB.out HLE.out
      obtain ⟨ya, yc, rfl, hnums, hnew⟩ := new_trim HO.out
      have hT := rtrim_at y HK.out ya yc wr hnums
      rw [hE] at hT hnew
      have HT := Lib.hid hT
      have HNEW := Lib.hid hnew
      clear hP hE hnums hT hnew
      go_wp2_with fail
      refine HT.out.mono ?_
      rintro e w2 ⟨rfl, rfl⟩
      go_wp2_with fail
      go_ret
      exact ⟨⟨_, rfl, HNEW.out⟩, HB.out⟩

theorem ofN_set (l : List Nat) (i v : Nat) : (ofN l).set i (v : Int) = ofN (l.set i v) := by simp [ofN, List.map_set]
theorem ofN_zeros (n : Nat) : List.replicate n (0 : Int) = ofN (List.replicate n 0) := by simp [ofN]
theorem ofN_ne {l : List Nat} (h : 0 < l.length) : ofN l ≠ [] := fun e => by
  have h1 : (ofN l).length = 0 := by rw [e]; rfl
  rw [ofN_len] at h1; omega
theorem nums_cols {w : World} {base g c : Nat} {C : List Nat} (h : ColsAt w base (some ⟨g, 0, none⟩) (ofN C)) (h1 : C.length ≤ c) (h2 : (c : Int) ≤ 9223372036854775807) : NumsAt w (.slice (some ⟨g, 0, none⟩) C.length c) C := by
  refine ⟨_, c, rfl, h1, h2, .inr ⟨g, rfl, fun j hj => ?_⟩⟩
  rcases h with h | ⟨g', _, e, hr⟩
  · exact absurd h (ofN_ne (by omega))
  · obtain rfl : g = g' := by cases e; rfl
    have := (hr j (by rw [ofN_len]; exact hj)).1
    rwa [ofN_get] at this
set_option maxRecDepth 100000 in
set_option maxHeartbeats 4000000 in
theorem rtimes_any (A B : List Nat) (hA : DigB 10 A) (hB : DigB 10 B) (hlA : A.length ≤ 5000) (hlB : B.length ≤ 5000) (u v : Value) (w : World) (hu : NumsAt w u A) (hv : NumsAt w v B) :
    Calls Tryz.prog 35 #[u, v] w fun e w' => (∃ r, e = .returned r ∧ NumsAt w' r (digsL 10 (leV 10 A * leV 10 B))) ∧ Below w.heap.size w w' := by
  obtain ⟨i0, hi0, hz0, hz1, hz2⟩ := info_parts info_int
  have HI0 := Lib.hid hi0
  have HZ0 := Lib.hid hz0
  have HZ1 := Lib.hid hz1
  have HZ2 := Lib.hid hz2
  obtain ⟨a, ca, rfl, hva⟩ := nums_form hu
  obtain ⟨b, cb, rfl, hvb⟩ := nums_form hv
  obtain ⟨hra1, _, hva⟩ := hva.addr
  obtain ⟨hrb1, _, hvb⟩ := hvb.addr
  have HDA := Lib.hid hA
  have HDB := Lib.hid hB
  have HVA := Lib.hid hva
  have HVB := Lib.hid hvb
  obtain ⟨n, hn⟩ : ∃ n, n = A.length := ⟨_, rfl⟩
  obtain ⟨m, hm⟩ : ∃ m, m = B.length := ⟨_, rfl⟩
  have hnb : (n : Int) ≤ 5000 := by omega
  have hmb : (m : Int) ≤ 5000 := by omega
  rw [← hn] at hra1 ⊢
  rw [← hm] at hrb1 ⊢
  have HN := Lib.hid hn
  have HM := Lib.hid hm
  clear hi0 hz0 hz1 hz2 hA hB hlA hlB hu hv hva hvb hn hm
  go_enter Tryz.func35, Tryz.ntmps35
  go_wp2_with (at_make; go_must (refine wpList_make_full _ rfl _ _ 38 rfl w.heap.size 3 i0 (.int .i64 0) 1 Tryz.underlying38 HI0.out HZ0.out HZ1.out .i64 .i64 ((n : Int) + m) ((n : Int) + m) (n + m) rfl rfl (by omega) (by omega) (by rw [HZ2.out]; omega) (by unfold maxLen; omega) (Nat.le_refl _) ?_); intro w1 hown hgrow; have HC1 := Lib.hid (cols_made hown); have HB1 := Lib.hid (belowMade hgrow); clear hown hgrow)
  have HP0 : Hid (TimesT A B 0 0 (List.replicate (n + m) 0) 0) := by show TimesT _ _ _ _ _ _; rw [HN.out, HM.out]; exact TimesT.start A B
  rw [ofN_zeros] at HC1
  go_loopw [6] (fun i wr => ∃ (k : Nat) (C : List Nat), k ≤ n ∧ i = .int .i64 k ∧ TimesT A B k 0 C 0 ∧ ColsAt wr w.heap.size (some ⟨w.heap.size, 0, none⟩) (ofN C) ∧ Below w.heap.size w wr) (fun i _ => n - (intOf i).toNat)
  case atStart => exact ⟨0, _, by omega, rfl, HP0.out, HC1.out, HB1.out⟩
  case round =>
    obtain ⟨k, C, hk, rfl, hP, hcols, hB⟩ := hrel
    have HP := Lib.hid hP
    have HCO := Lib.hid hcols
    have HB := Lib.hid hB
    clear hP hcols hB
    by_cases hlt : k < n
    · have hlt' : (k : Int) < n := by omega
      obtain ⟨ga, rfl, hcell⟩ := HVA.out (by have := HN.out; omega)
      have HAX := Lib.hid (hcell k (by have := HN.out; omega))
      have hxa := dig_getD (by decide) HDA.out k
      have hxb : ((A.getD k 0 : Nat) : Int) ≤ 9 := by omega
      clear hcell hxa
      obtain ⟨x, hx⟩ : ∃ x, x = A.getD k 0 := ⟨_, rfl⟩
      rw [← hx] at HAX hxb
      have HX := Lib.hid hx
      clear hx
      go_wp2_with fail
      go_loopw [7, 8] (fun c i wr => ∃ (j cc : Nat) (C : List Nat), i = .int .i64 j ∧ c = .int .i64 cc ∧ TimesT A B k j C cc ∧ ColsAt wr w.heap.size (some ⟨w.heap.size, 0, none⟩) (ofN C) ∧ Below w.heap.size w wr) (fun _ i _ => n + m - k - (intOf i).toNat)
      case atStart => exact ⟨0, 0, _, rfl, rfl, HP.out, HCO.out, HB.out⟩
      case round =>
        obtain ⟨j, cc, C2, rfl, rfl, hP2, hcols2, hB2⟩ := hrel
        have HP2 := Lib.hid hP2
        have HCO2 := Lib.hid hcols2
        have HB2 := Lib.hid hB2
        have hcb : (cc : Int) ≤ 9 := by have := hP2.2.2.2; omega
        clear hP2 hcols2 hB2
        by_cases hjt : j < m
        · skip
          have hpl := HP2.out.place HDA.out HDB.out (by have := HN.out; omega) (.inl (by have := HM.out; omega))
          have hpl2 : k + j < n + m := by have := HN.out; have := HM.out; omega
          have hkj : (k : Int) + j < (n : Int) + m := by omega
          have hidx : k + j < (ofN C2).length := by rw [ofN_len]; have := HP2.out.1; omega
          obtain ⟨g, hg, hge, hrow⟩ := HCO2.out.at hidx
          obtain rfl : w.heap.size = g := by cases hge; rfl
          obtain ⟨hcx, hfx⟩ := hrow (k + j) hidx
          rw [ofN_get] at hcx
          have htn : ((k : Int) + j).toNat = k + j := by omega
          have hst := HP2.out.step HDA.out HDB.out hpl
          rw [← HX.out] at hst
          have hcd := dig_getD (by decide) HP2.out.2.1 (k + j)
          have hcd' : ((C2.getD (k + j) 0 : Nat) : Int) ≤ 9 := by omega
          have hjt' : (j : Int) < m := by omega
          obtain ⟨gb, rfl, hcell⟩ := HVB.out (by have := HM.out; omega)
          have hby := keptBelow HB2.out (hcell j (by have := HM.out; omega))
          have hax := keptBelow HB2.out HAX.out
          have hyb := dig_getD (by decide) HDB.out j
          have hmul : x * B.getD j 0 ≤ 9 * 9 := Nat.mul_le_mul (by omega) (by omega)
          obtain ⟨z, hz⟩ : ∃ z, z = x * B.getD j 0 := ⟨_, rfl⟩
          have hzz : (x : Int) * ((B.getD j 0 : Nat) : Int) = (z : Nat) := by rw [hz, Int.natCast_mul]
          rw [← hz] at hst hmul
          have hyb' : ((B.getD j 0 : Nat) : Int) ≤ 9 := by omega
          have hzb : (z : Int) ≤ 81 := by omega
          obtain ⟨d, hd⟩ : ∃ d, d = (C2.getD (k + j) 0 + cc + z) % 10 := ⟨_, rfl⟩
          obtain ⟨q, hq⟩ : ∃ q, q = (C2.getD (k + j) 0 + cc + z) / 10 := ⟨_, rfl⟩
          rw [← hd, ← hq] at hst
          have hm1 : (((C2.getD (k + j) 0 : Nat) : Int) + (cc : Int) + (z : Int)) % 10 = (d : Nat) := by omega
          have hm2 : (((C2.getD (k + j) 0 : Nat) : Int) + (cc : Int) + (z : Int)).tmod 10 = (d : Nat) := by rw [Int.tmod_eq_emod_of_nonneg (by omega)]; exact hm1
          have hm3 : (((C2.getD (k + j) 0 : Nat) : Int) + (cc : Int) + (z : Int)) / 10 = (q : Nat) := by omega
          have hm4 : (((C2.getD (k + j) 0 : Nat) : Int) + (cc : Int) + (z : Int)).tdiv 10 = (q : Nat) := by rw [Int.tdiv_eq_ediv_of_nonneg (by omega)]; exact hm3
          have hd9 : (d : Int) ≤ 9 := by omega
          have hq9 : (q : Int) ≤ 9 := by have := hst.2.2.2; omega
          have HRW := Lib.hid (fun (W : World) (h : RowAt W w.heap.size (ofN C2)) => by have := h.set (k + j) hidx (d : Int); rw [ofN_set] at this; exact this)
          have HROW := Lib.hid hrow
          have HST := Lib.hid hst
          have HMES : Hid (n + m - k - (j + 1) < n + m - k - j) := by show _ < _; omega
          have hjb : (j : Int) ≤ 10000 := by omega
          clear hst hrow hge hd hq hpl hpl2 hidx hcd hcell hyb hmul hz
          generalize C2.getD (k + j) 0 = c at *
          generalize B.getD j 0 = y at *
          go_wp2_with fail
          go_quiet (fail)
          have hcx2 : (wr.drewN nq).cell? ⟨w.heap.size, k + j, none⟩ = some (.int .i64 (c : Nat)) := hcx
          have hfx2 : (wr.drewN nq).frozen? ⟨w.heap.size, k + j, none⟩ = false := hfx
          have HRW2 := Lib.hid (HRW.out (wr.drewN nq) HROW.out)
          have HBE := Lib.hid (below_set (below_drewN HB2.out nq) hg (i := k + j) (.int .i64 (d : Nat)))
          generalize wr.drewN nq = w9 at *
          go_wp2_with fail
          go_roundw
          case rel => exact ⟨j + 1, q, _, by go_num, by go_num, HST.out, .inr ⟨_, hg, rfl, HRW2.out⟩, HBE.out⟩
          case measure => have := HMES.out; simp [intOf]; omega
        · by_cases hc : 0 < cc
          · have hc' : (0 : Int) < cc := by omega
            have hpl := HP2.out.place HDA.out HDB.out (by have := HN.out; omega) (.inr hc)
            have hpl2 : k + j < n + m := by have := HN.out; have := HM.out; omega
            have hkj : (k : Int) + j < (n : Int) + m := by omega
            have hidx : k + j < (ofN C2).length := by rw [ofN_len]; have := HP2.out.1; omega
            obtain ⟨g, hg, hge, hrow⟩ := HCO2.out.at hidx
            obtain rfl : w.heap.size = g := by cases hge; rfl
            obtain ⟨hcx, hfx⟩ := hrow (k + j) hidx
            rw [ofN_get] at hcx
            have htn : ((k : Int) + j).toNat = k + j := by omega
            have hst := HP2.out.step HDA.out HDB.out hpl
            rw [← HX.out] at hst
            have hcd := dig_getD (by decide) HP2.out.2.1 (k + j)
            have hcd' : ((C2.getD (k + j) 0 : Nat) : Int) ≤ 9 := by omega
            have hjt' : (m : Int) ≤ j := by omega
            rw [getD_far (l := B) (k := j) (by have := HM.out; omega)] at hst
            simp only [Nat.mul_zero, Nat.add_zero] at hst
            obtain ⟨d, hd⟩ : ∃ d, d = (C2.getD (k + j) 0 + cc) % 10 := ⟨_, rfl⟩
            obtain ⟨q, hq⟩ : ∃ q, q = (C2.getD (k + j) 0 + cc) / 10 := ⟨_, rfl⟩
            rw [← hd, ← hq] at hst
            have hm1 : (((C2.getD (k + j) 0 : Nat) : Int) + (cc : Int)) % 10 = (d : Nat) := by omega
            have hm2 : (((C2.getD (k + j) 0 : Nat) : Int) + (cc : Int)).tmod 10 = (d : Nat) := by rw [Int.tmod_eq_emod_of_nonneg (by omega)]; exact hm1
            have hm3 : (((C2.getD (k + j) 0 : Nat) : Int) + (cc : Int)) / 10 = (q : Nat) := by omega
            have hm4 : (((C2.getD (k + j) 0 : Nat) : Int) + (cc : Int)).tdiv 10 = (q : Nat) := by rw [Int.tdiv_eq_ediv_of_nonneg (by omega)]; exact hm3
            have hd9 : (d : Int) ≤ 9 := by omega
            have hq9 : (q : Int) ≤ 9 := by have := hst.2.2.2; omega
            have hrow2 := hrow.set (k + j) hidx (d : Int)
            rw [ofN_set] at hrow2
            have HRW := Lib.hid hrow2
            have HBE := Lib.hid (below_set HB2.out hg (i := k + j) (.int .i64 (d : Nat)))
            have HST := Lib.hid hst
            have HMES : Hid (n + m - k - (j + 1) < n + m - k - j) := by show _ < _; omega
            have hjb : (j : Int) ≤ 10000 := by omega
            clear hst hrow hge hd hq hpl hpl2 hidx hcd hrow2
            generalize C2.getD (k + j) 0 = c at *
            go_wp2_with fail
            go_roundw
            case rel => exact ⟨j + 1, q, _, by go_num, by go_num, HST.out, .inr ⟨_, hg, rfl, HRW.out⟩, HBE.out⟩
            case measure => have := HMES.out; simp [intOf]; omega
          · obtain rfl : cc = 0 := by omega
            have hjt' : (m : Int) ≤ j := by omega
            have HP3 := Lib.hid (HP2.out.next (by have := HM.out; omega))
            go_wp2_with fail
            go_roundw
            case rel => exact ⟨k + 1, _, by omega, by go_num, HP3.out, HCO2.out, HB2.out⟩
            case measure => simp [intOf]; omega
    · obtain rfl : k = n := by omega
      have hlC : C.length = k + m := by have := HP.out.1; have := HN.out; have := HM.out; omega
      have hE := HP.out.done (by have := HN.out; omega)
      have hnums := nums_cols HCO.out (c := k + m) (by omega) (by omega)
      have hT := rtrim_any C (by omega) _ wr hnums
      rw [hE, hlC] at hT
      have HT := Lib.hid hT
      clear hE hnums hT hlC
      go_wp2_with fail
      refine HT.out.mono ?_
      rintro e w2 ⟨r, rfl, hr, rfl⟩
      have HR := Lib.hid hr
      obtain ⟨_, _, rfl, _⟩ := hr
      go_wp2_with fail
      go_ret
      exact ⟨⟨_, rfl, HR.out⟩, HB.out⟩
end Go.Proofs.YtggkbeppfpgkaaaGreatDoor
