/- WireUnique: what the law's body answers. -/
import Derived.RegionTactic
import Derived.Test.YtlnbipldbbdnmaaDoorWireLaws
namespace Go.Proofs.YtlnbipldbbdnmaaDoor
open Go.RowKit Putlog

theorem drop_take (T : ByteArray) (p n : Nat) : (T.extract p (p + n)).toList = (T.data.toList.drop p).take n := by
  rw [ByteArray.toList_eq, extract_list]
/-- What Int accepts, and what PutInt makes of it. -/
theorem Int_cases (T : ByteArray) (p : Nat) (hT : T.size ≤ 1000) (hp : p ≤ T.size) :
    (∀ w, Calls Tryd.prog 15 #[.string T, .int .i64 p] w fun e w' => e = .returned (.tuple #[.int .i64 0, .int .i64 0, .int .i64 10]) ∧ w = w') ∨
    ∃ (n : Int) (q : Nat) (E : ByteArray), p ≤ q ∧ q ≤ T.size ∧ ((T.extract p q).toList == E.toList) = true ∧
      (∀ w, Calls Tryd.prog 15 #[.string T, .int .i64 p] w fun e w' => e = .returned (.tuple #[.int .i64 n, .int .i64 q, .int .i64 0]) ∧ w = w') ∧
      (∀ w, Calls Tryd.prog 12 #[.int .i64 n] w fun e w' => e = .returned (.tuple #[.string E, .int .i64 0]) ∧ Below w.heap.size w w') := by
  cases h : dec 0 0 (T.data.toList.drop p) with
  | none => exact .inl fun w => Int_none T p w (by omega) hp h
  | some x =>
    obtain ⟨z, k⟩ := x
    obtain ⟨hz, hk, ht⟩ := dec_some h
    have hle := dec_le h
    simp at hle
    obtain ⟨b1, b2⟩ := zag_bd hz
    refine .inr ⟨zag z, p + k, ⟨(enc (zag z)).toArray⟩, by omega, by omega, ?_, fun w => Int_some T p z k w (by omega) hp h, fun w => PutInt_ok _ w b1 b2⟩
    rw [beq_iff_eq, drop_take, ht, ByteArray.toList_eq]
    unfold enc
    rw [zig_zag]
/-- What String accepts, and what PutString makes of it. -/
theorem String_cases (T : ByteArray) (p : Nat) (hT : T.size ≤ 1000) (hp : p ≤ T.size) :
    (∀ w, Calls Tryd.prog 17 #[.string T, .int .i64 p] w fun e w' => e = .returned (.tuple #[.string ⟨#[]⟩, .int .i64 0, .int .i64 10]) ∧ Below w.heap.size w w') ∨
    ∃ (R : ByteArray) (q : Nat) (E : ByteArray), p ≤ q ∧ q ≤ T.size ∧ ((T.extract p q).toList == E.toList) = true ∧
      (∀ w, Calls Tryd.prog 17 #[.string T, .int .i64 p] w fun e w' => e = .returned (.tuple #[.string R, .int .i64 q, .int .i64 0]) ∧ Below w.heap.size w w') ∧
      (∀ w, Calls Tryd.prog 19 #[.string R] w fun e w' => e = .returned (.tuple #[.string E, .int .i64 0]) ∧ Below w.heap.size w w') := by
  have hS := fun w => String_at T p w (by omega) hp
  cases h : dec 0 0 (T.data.toList.drop p) with
  | none =>
    refine .inl fun w => (hS w).mono fun e w' ⟨he, hB⟩ => ⟨?_, hB⟩
    rw [he]; unfold strEnd; rw [h]; rfl
  | some x =>
    obtain ⟨z, k⟩ := x
    obtain ⟨hz, hk, ht⟩ := dec_some h
    have hle := dec_le h
    simp at hle
    by_cases hc : zag z < 0 ∨ 65536 < zag z ∨ (T.data.toList.length : Int) - ((p + k : Nat) : Int) < zag z
    · refine .inl fun w => (hS w).mono fun e w' ⟨he, hB⟩ => ⟨?_, hB⟩
      rw [he]; unfold strEnd; rw [h]; simp only []; rw [if_pos hc]; rfl
    · have hlen : T.data.toList.length = T.size := by simp
      have hzz := zig_zag z
      generalize hn : zag z = n at *
      obtain ⟨m, rfl⟩ := Int.eq_ofNat_of_zero_le (by omega : 0 ≤ n)
      have hRl : ((T.data.toList.drop (p + k)).take m).length = m := by
        rw [List.length_take, List.length_drop]; omega
      have hRs : (⟨((T.data.toList.drop (p + k)).take m).toArray⟩ : ByteArray).size = m := by rw [ba_size]; exact hRl
      refine .inr ⟨⟨((T.data.toList.drop (p + k)).take m).toArray⟩, p + (k + m), ⟨(enc m).toArray⟩ ++ ⟨((T.data.toList.drop (p + k)).take m).toArray⟩, by omega, by omega, ?_, fun w => (hS w).mono fun e w' ⟨he, hB⟩ => ⟨?_, hB⟩, fun w => ?_⟩
      · rw [beq_iff_eq, drop_take, ByteArray.toList_eq]
        have e : List.drop p T.data.toList = leb z ++ List.drop (p + k) T.data.toList := by
          rw [← List.drop_drop, ← ht, List.take_append_drop]
        rw [e, List.take_append, List.take_of_length_le (l := leb z) (by omega), ← hk, Nat.add_sub_cancel_left]
        unfold enc
        rw [hzz]
        simp
      · rw [he]; unfold strEnd; rw [h]; simp only [hn]; rw [if_neg hc]
        rw [Int.toNat_natCast, show (((p + k : Nat) : Int) + (m : Int)) = ((p + (k + m) : Nat) : Int) by omega]
      · have := PutString_ok ⟨((T.data.toList.drop (p + k)).take m).toArray⟩ w (by omega)
        rw [hRs] at this
        exact this

set_option maxRecDepth 100000 in
set_option maxHeartbeats 1000000 in
theorem Unique_calls (s : ByteArray) (at' b : Int) (w : World) (h4 : -9223372036854775808 ≤ at') (h5 : at' ≤ 9223372036854775807) (hs : s.size ≤ 9223372036854775807) (hT : TabAt w) :
    Calls Tryd.prog 5 #[.string s, .int .i64 at', .int .u8 b] w fun e w' => e = .returned (.bool true) ∧ Below w.heap.size w w' := by
  have HT := Lib.hid hT
  have hm3 := min_int s.size 300
  have hn3 : min s.size 300 ≤ s.size := by omega
  have hn6 : min s.size 300 ≤ 300 := by omega
  generalize min s.size 300 = nt at *
  simp only [Int.cast_ofNat_Int] at hm3
  clear hT
  go_enter Tryd.func5, Tryd.ntmps5
  go_wp2_with fail
  refine (sane_any _ HT.out).mono ?_; rintro e w1 ⟨rfl, hB⟩
  have hconv := run_convert_bytes_arg (P := Tryd.prog) (w1.alloc (.cells #[.int .u8 b] 5)).drew 38 5 Tryd.underlying38 Tryd.underlying5 w1.heap.size 0 1 1 [b] rfl (fun i hi => by
    obtain rfl : i = 0 := by omega
    rw [World.cell?_drew, World.cell?_alloc_new]; rfl) 9 Tryd.underlying9
  have hf1 : (strOfNums [b]).size = 1 := rfl
  generalize strOfNums [b] = f at *
  have hf : (f.size : Int) ≤ 1 := by omega
  have hR : (s.extract 0 nt).size ≤ 300 := by simp; omega
  have hn3' : (nt : Int) ≤ s.size := by omega
  clear hf1
  go_wp2
  go_region
  have hTs : (f ++ s.extract 0 nt).size ≤ 1000 := by rw [ByteArray.size_append]; omega
  generalize f ++ s.extract 0 nt = T at *
  obtain ⟨W0, hW0⟩ : ∃ W0 : World, W0 = (w1.alloc (.cells #[.int .u8 b] 5)).drew := ⟨_, rfl⟩
  have hBW : Below w.heap.size w W0 := by rw [hW0]; exact (hB.alloc hB.size _).drew
  rw [← hW0]
  clear hW0 hconv hB hf hR hn3' hn3 hn6 hm3 hs
  have hTs' : (T.size : Int) ≤ 1000 := by omega
  go_wp2_with fail
  have hx0 := pickZ_nonneg at' (n := (T.size : Int) + 1) (by omega)
  have hx1 := pickZ_lt at' (n := (T.size : Int) + 1) (by omega)
  refine (pick_any at' (T.size + 1) _ h4 h5 (by omega) (by omega)).mono ?_; rintro e w' ⟨rfl, rfl⟩
  generalize pickZ at' ((T.size : Int) + 1) = x at *
  obtain ⟨x, rfl⟩ := Int.eq_ofNat_of_zero_le hx0
  have hc0 : (W0.alloc (.cells #[.int .i64 0, .int .i64 (x : Int)] 3)).cell? ⟨W0.heap.size, 0, none⟩ = some (.int .i64 ((0 : Nat) : Int)) := by rw [World.cell?_alloc_new]; rfl
  have hc1 : (W0.alloc (.cells #[.int .i64 0, .int .i64 (x : Int)] 3)).cell? ⟨W0.heap.size, 1, none⟩ = some (.int .i64 (x : Int)) := by rw [World.cell?_alloc_new]; rfl
  have HC0 := Lib.hid hc0
  have HC1 := Lib.hid hc1
  have HT2 := Lib.hid hTs
  clear hc0 hc1 hTs
  go_wp2_with fail
  go_loopw [38] (fun i wr => ∃ k : Nat, k ≤ 2 ∧ i = .int .i64 k ∧ Below w.heap.size w wr ∧ W0.heap.size < wr.heap.size ∧ wr.cell? ⟨W0.heap.size, 0, none⟩ = some (.int .i64 ((0 : Nat) : Int)) ∧ wr.cell? ⟨W0.heap.size, 1, none⟩ = some (.int .i64 (x : Int))) (fun i _ => 2 - (intOf i).toNat)
  case atStart => exact ⟨0, by omega, rfl, hBW.alloc hBW.size _, by simp, HC0.out, HC1.out⟩
  case round =>
    obtain ⟨k, hk, rfl, hB, hsz, hc0, hc1⟩ := hrel
    by_cases hk2 : k < 2
    · obtain ⟨p, hp, hcell⟩ : ∃ p : Nat, p ≤ T.size ∧ wr.cell? ⟨W0.heap.size, k, none⟩ = some (.int .i64 (p : Int)) := by
        match k, hk2 with
        | 0, _ => exact ⟨0, Nat.zero_le _, hc0⟩
        | 1, _ => exact ⟨x, by omega, hc1⟩
      have HC0 := Lib.hid hc0
      have HC1 := Lib.hid hc1
      have hk2' : (k : Int) < 2 := by omega
      have hIc := Lib.hid (Int_cases T p HT2.out hp)
      have hSc := Lib.hid (String_cases T p HT2.out hp)
      have HP := Lib.hid hp
      clear hc0 hc1 hp hk2 hk
      go_wp2_with fail
      clear hBW hx0 hx1
      rcases hIc.out with hI | ⟨n, q, E, hq1, hq2, heq, hI, hP⟩
      · have HI := Lib.hid hI
        clear hI
        refine (HI.out _).mono ?_; rintro e w' ⟨rfl, rfl⟩
        go_wp2_with fail
        refine (PutInt_ok 0 _ (by omega) (by omega)).mono ?_; rintro e w3 ⟨rfl, hR⟩
        generalize (⟨(enc 0).toArray⟩ : ByteArray) = E
        go_wp2_with fail
        rcases hSc.out with hS | ⟨R, q', F, hq1', hq2', heq', hS, hQ⟩
        · have HS := Lib.hid hS
          clear hS hIc hSc
          refine (HS.out _).mono ?_; rintro e w4 ⟨rfl, hB3⟩
          replace hR := belowStep hR hB3; clear hB3
          go_wp2_with fail
          refine (PutString_ok ⟨#[]⟩ _ (by decide)).mono ?_; rintro e w5 ⟨rfl, hB3⟩
          replace hR := belowStep hR hB3; clear hB3
          generalize (⟨(enc ((⟨#[]⟩ : ByteArray).size)).toArray⟩ ++ ⟨#[]⟩ : ByteArray) = G
          go_wp2_with fail
          go_roundw
          case rel => exact ⟨k + 1, by omega, by go_num, hB.trans (hR.mono hB.size), Nat.lt_of_lt_of_le hsz hR.size, (hR.cell (p := ⟨W0.heap.size, 0, none⟩) hsz).trans HC0.out, (hR.cell (p := ⟨W0.heap.size, 1, none⟩) hsz).trans HC1.out⟩
          case measure => simp [intOf]; omega
        · have HS := Lib.hid hS
          have HQ := Lib.hid hQ
          have hq1b : (p : Int) ≤ q' := by omega
          have hq2b : (q' : Int) ≤ T.size := by omega
          clear hS hQ hIc hSc hq1' hq2'
          refine (HS.out _).mono ?_; rintro e w4 ⟨rfl, hB3⟩
          replace hR := belowStep hR hB3; clear hB3
          go_wp2_with fail
          refine (HQ.out _).mono ?_; rintro e w5 ⟨rfl, hB3⟩
          replace hR := belowStep hR hB3; clear hB3
          go_wp2_with fail
          go_roundw
          case rel => exact ⟨k + 1, by omega, by go_num, hB.trans (hR.mono hB.size), Nat.lt_of_lt_of_le hsz hR.size, (hR.cell (p := ⟨W0.heap.size, 0, none⟩) hsz).trans HC0.out, (hR.cell (p := ⟨W0.heap.size, 1, none⟩) hsz).trans HC1.out⟩
          case measure => simp [intOf]; omega
      · have HI := Lib.hid hI
        have HQ0 := Lib.hid hP
        have hq1a : (p : Int) ≤ q := by omega
        have hq2a : (q : Int) ≤ T.size := by omega
        clear hI hP hq1 hq2
        refine (HI.out _).mono ?_; rintro e w' ⟨rfl, rfl⟩
        go_wp2_with fail
        refine (HQ0.out _).mono ?_; rintro e w3 ⟨rfl, hR⟩
        go_wp2_with fail
        rcases hSc.out with hS | ⟨R, q', F, hq1', hq2', heq', hS, hQ⟩
        · have HS := Lib.hid hS
          clear hS hIc hSc
          refine (HS.out _).mono ?_; rintro e w4 ⟨rfl, hB3⟩
          replace hR := belowStep hR hB3; clear hB3
          go_wp2_with fail
          refine (PutString_ok ⟨#[]⟩ _ (by decide)).mono ?_; rintro e w5 ⟨rfl, hB3⟩
          replace hR := belowStep hR hB3; clear hB3
          generalize (⟨(enc ((⟨#[]⟩ : ByteArray).size)).toArray⟩ ++ ⟨#[]⟩ : ByteArray) = G
          go_wp2_with fail
          go_roundw
          case rel => exact ⟨k + 1, by omega, by go_num, hB.trans (hR.mono hB.size), Nat.lt_of_lt_of_le hsz hR.size, (hR.cell (p := ⟨W0.heap.size, 0, none⟩) hsz).trans HC0.out, (hR.cell (p := ⟨W0.heap.size, 1, none⟩) hsz).trans HC1.out⟩
          case measure => simp [intOf]; omega
        · have HS := Lib.hid hS
          have HQ := Lib.hid hQ
          have hq1b : (p : Int) ≤ q' := by omega
          have hq2b : (q' : Int) ≤ T.size := by omega
          clear hS hQ hIc hSc hq1' hq2'
          refine (HS.out _).mono ?_; rintro e w4 ⟨rfl, hB3⟩
          replace hR := belowStep hR hB3; clear hB3
          go_wp2_with fail
          refine (HQ.out _).mono ?_; rintro e w5 ⟨rfl, hB3⟩
          replace hR := belowStep hR hB3; clear hB3
          go_wp2_with fail
          go_roundw
          case rel => exact ⟨k + 1, by omega, by go_num, hB.trans (hR.mono hB.size), Nat.lt_of_lt_of_le hsz hR.size, (hR.cell (p := ⟨W0.heap.size, 0, none⟩) hsz).trans HC0.out, (hR.cell (p := ⟨W0.heap.size, 1, none⟩) hsz).trans HC1.out⟩
          case measure => simp [intOf]; omega
    · have hk2' : 2 ≤ (k : Int) := by omega
      clear hk2 hc0 hc1 hBW hx0 hx1 hk
      go_wp2_with fail
      go_ret
      exact ⟨rfl, hB⟩
end Go.Proofs.YtlnbipldbbdnmaaDoor
