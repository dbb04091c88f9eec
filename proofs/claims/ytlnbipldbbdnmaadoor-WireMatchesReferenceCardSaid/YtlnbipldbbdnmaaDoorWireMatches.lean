/- WireMatchesReference: what the law's body answers. -/
import Derived.Test.YtlnbipldbbdnmaaDoorWireRefSum
namespace Go.Proofs.YtlnbipldbbdnmaaDoor
open Go.RowKit Putlog

theorem belowOf {P : Program} {f : FuncId} {args : Array Value} {w : World} {E : Ending} (h : Calls P f args w fun e w' => e = E ∧ w = w') : Calls P f args w fun e w' => e = E ∧ Below w.heap.size w w' :=
  h.mono fun _ _ ⟨he, hw⟩ => ⟨he, hw ▸ Below.refl _ _⟩
theorem PutInt_both (c : Int) : ∃ (E : ByteArray) (e : Int), (∀ w, Calls Tryd.prog 12 #[.int .i64 c] w fun x w' => x = .returned (.tuple #[.string E, .int .i64 e]) ∧ Below w.heap.size w w') ∧
    (∀ w, Calls Tryd.prog 13 #[.int .i64 c] w fun x w' => x = .returned (.tuple #[.string E, .int .i64 e]) ∧ Below w.heap.size w w') := by
  by_cases h : c < -4611686018427387903 ∨ 4611686018427387903 < c
  · exact ⟨⟨#[]⟩, 10, fun w => belowOf (PutInt_no c w h), fun w => belowOf (RefPutInt_no c w h)⟩
  · exact ⟨⟨(enc c).toArray⟩, 0, fun w => PutInt_ok c w (by omega) (by omega), fun w => RefPutInt_ok c w (by omega) (by omega)⟩
theorem Int_both (s : ByteArray) (p : Int) (hs : s.size ≤ 1000) : ∃ (a x e : Int), (∀ w, Calls Tryd.prog 15 #[.string s, .int .i64 p] w fun z w' => z = .returned (.tuple #[.int .i64 a, .int .i64 x, .int .i64 e]) ∧ Below w.heap.size w w') ∧
    (∀ w, Calls Tryd.prog 16 #[.string s, .int .i64 p] w fun z w' => z = .returned (.tuple #[.int .i64 a, .int .i64 x, .int .i64 e]) ∧ Below w.heap.size w w') := by
  by_cases h : p < 0 ∨ (s.size : Int) < p
  · exact ⟨0, 0, 2, fun w => belowOf (Int_out s p w h), fun w => belowOf (RefInt_out s p w h)⟩
  · obtain ⟨q, rfl⟩ := Int.eq_ofNat_of_zero_le (by omega : 0 ≤ p)
    cases hd : dec 0 0 (s.data.toList.drop q) with
    | none => exact ⟨0, 0, 10, fun w => belowOf (Int_none s q w (by omega) (by omega) hd), fun w => RefInt_none s q w (by omega) (by omega) hd⟩
    | some y => exact ⟨_, _, _, fun w => belowOf (Int_some s q y.1 y.2 w (by omega) (by omega) hd), fun w => RefInt_some s q y.1 y.2 w (by omega) (by omega) hd⟩
theorem strEnd_shape (l : List UInt8) (p : Nat) : ∃ (R : ByteArray) (x e : Int), strEnd l p = .returned (.tuple #[.string R, .int .i64 x, .int .i64 e]) := by
  unfold strEnd strNo
  split
  · exact ⟨_, _, _, rfl⟩
  · split
    · exact ⟨_, _, _, rfl⟩
    · exact ⟨_, _, _, rfl⟩
theorem String_both (s : ByteArray) (p : Int) (hs : s.size ≤ 1000) : ∃ (R : ByteArray) (x e : Int), (∀ w, Calls Tryd.prog 17 #[.string s, .int .i64 p] w fun z w' => z = .returned (.tuple #[.string R, .int .i64 x, .int .i64 e]) ∧ Below w.heap.size w w') ∧
    (∀ w, Calls Tryd.prog 18 #[.string s, .int .i64 p] w fun z w' => z = .returned (.tuple #[.string R, .int .i64 x, .int .i64 e]) ∧ Below w.heap.size w w') := by
  by_cases h : p < 0 ∨ (s.size : Int) < p
  · exact ⟨⟨#[]⟩, 0, 2, fun w => belowOf (String_out s p w h), fun w => belowOf (RefString_out s p w h)⟩
  · obtain ⟨q, rfl⟩ := Int.eq_ofNat_of_zero_le (by omega : 0 ≤ p)
    obtain ⟨R, x, e, he⟩ := strEnd_shape s.data.toList q
    exact ⟨R, x, e, fun w => (String_at s q w (by omega) (by omega)).mono fun _ _ ⟨h1, h2⟩ => ⟨h1.trans he, h2⟩, fun w => (RefString_at s q w (by omega) (by omega)).mono fun _ _ ⟨h1, h2⟩ => ⟨h1.trans he, h2⟩⟩

set_option maxRecDepth 100000 in
set_option maxHeartbeats 4000000 in
theorem Matches_calls (c : Int) (s : ByteArray) (at' : Int) (w : World) (h0 : -9223372036854775808 ≤ c) (h1 : c ≤ 9223372036854775807) (h4 : -9223372036854775808 ≤ at') (h5 : at' ≤ 9223372036854775807) (hs : s.size ≤ 9223372036854775807) (hT : TabAt w) :
    Calls Tryd.prog 3 #[.int .i64 c, .string s, .int .i64 at'] w fun e w' => e = .returned (.bool true) ∧ Below w.heap.size w w' := by
  have HT := Lib.hid hT
  have hm3 := min_int s.size 300
  have hn3 : min s.size 300 ≤ s.size := by omega
  have hn6 : min s.size 300 ≤ 300 := by omega
  generalize min s.size 300 = nt at *
  simp only [Int.cast_ofNat_Int] at hm3
  clear hT
  go_enter Tryd.func3, Tryd.ntmps3
  go_wp2_with fail
  refine (sane_any _ HT.out).mono ?_; rintro e w1 ⟨rfl, hB⟩
  go_wp2_with fail
  refine (NumberFrom_any c _ h0 h1).mono ?_; rintro e w2 ⟨rfl, hB2⟩
  replace hB := belowStep hB hB2; clear hB2
  have hTs : (s.extract 0 nt).size ≤ 300 := by simp; omega
  generalize s.extract 0 nt = T at *
  generalize numZ c = m at *
  clear hm3 hn3 hn6 hs
  have hc0 : (w2.alloc (.cells #[.int .i64 c, .int .i64 m] 3)).cell? ⟨w2.heap.size, 0, none⟩ = some (.int .i64 c) := by rw [World.cell?_alloc_new]; rfl
  have hc1 : (w2.alloc (.cells #[.int .i64 c, .int .i64 m] 3)).cell? ⟨w2.heap.size, 1, none⟩ = some (.int .i64 m) := by rw [World.cell?_alloc_new]; rfl
  have HC0 := Lib.hid hc0
  have HC1 := Lib.hid hc1
  have HT2 := Lib.hid hTs
  have HB := Lib.hid hB
  clear hc0 hc1 hB
  go_wp2_with fail
  go_loopw [44] (fun i wr => ∃ k : Nat, k ≤ 2 ∧ i = .int .i64 k ∧ Below w.heap.size w wr ∧ w2.heap.size < wr.heap.size ∧ wr.cell? ⟨w2.heap.size, 0, none⟩ = some (.int .i64 c) ∧ wr.cell? ⟨w2.heap.size, 1, none⟩ = some (.int .i64 m)) (fun i _ => 2 - (intOf i).toNat)
  case atStart => exact ⟨0, by omega, rfl, HB.out.alloc HB.out.size _, by simp, HC0.out, HC1.out⟩
  case round =>
    obtain ⟨k, hk, rfl, hB, hsz, hc0, hc1⟩ := hrel
    by_cases hk2 : k < 2
    · obtain ⟨p, hcell⟩ : ∃ p : Int, wr.cell? ⟨w2.heap.size, k, none⟩ = some (.int .i64 p) := by
        match k, hk2 with
        | 0, _ => exact ⟨c, hc0⟩
        | 1, _ => exact ⟨m, hc1⟩
      have HC0' := Lib.hid hc0
      have HC1' := Lib.hid hc1
      have hk2' : (k : Int) < 2 := by omega
      obtain ⟨E, ee, hP, hQ⟩ := PutInt_both p
      have HP := Lib.hid hP
      have HQ := Lib.hid hQ
      have HBr := Lib.hid hB
      have HSZ := Lib.hid hsz
      clear hc0 hc1 hk2 hk hP hQ hB hsz
      go_wp2_with fail
      refine (HP.out _).mono ?_; rintro e w3 ⟨rfl, hR⟩
      go_wp2_with fail
      refine (HQ.out _).mono ?_; rintro e w4 ⟨rfl, hB3⟩
      replace hR := belowStep hR hB3; clear hB3
      go_wp2_with fail
      go_roundw
      case rel => exact ⟨k + 1, by omega, by go_num, HBr.out.trans (hR.mono HBr.out.size), Nat.lt_of_lt_of_le HSZ.out hR.size, (hR.cell (p := ⟨w2.heap.size, 0, none⟩) HSZ.out).trans HC0'.out, (hR.cell (p := ⟨w2.heap.size, 1, none⟩) HSZ.out).trans HC1'.out⟩
      case measure => simp [intOf]; omega
    · have hk2' : 2 ≤ (k : Int) := by omega
      have HBr := Lib.hid hB
      clear hk2 hc0 hc1 hk hB hsz hTs
      have hTs' : (T.size : Int) ≤ 300 := by have := HT2.out; omega
      go_wp2_with fail
      have hx0 := pickZ_nonneg at' (n := (T.size : Int) + 2) (by omega)
      have hx1 := pickZ_lt at' (n := (T.size : Int) + 2) (by omega)
      refine (pick_any at' (T.size + 2) _ h4 h5 (by omega) (by omega)).mono ?_; rintro e w' ⟨rfl, rfl⟩
      generalize pickZ at' ((T.size : Int) + 2) = x at *
      have hc0 : (wr.alloc (.cells #[.int .i64 at', .int .i64 x] 3)).cell? ⟨wr.heap.size, 0, none⟩ = some (.int .i64 at') := by rw [World.cell?_alloc_new]; rfl
      have hc1 : (wr.alloc (.cells #[.int .i64 at', .int .i64 x] 3)).cell? ⟨wr.heap.size, 1, none⟩ = some (.int .i64 x) := by rw [World.cell?_alloc_new]; rfl
      have HD0 := Lib.hid hc0
      have HD1 := Lib.hid hc1
      clear hc0 hc1 hx0 hx1 hk2'
      go_wp2_with fail
      obtain ⟨wo, rfl⟩ : ∃ wo : World, wo = wr := ⟨_, rfl⟩
      go_loopw [75] (fun i wr => ∃ k : Nat, k ≤ 2 ∧ i = .int .i64 k ∧ Below w.heap.size w wr ∧ wo.heap.size < wr.heap.size ∧ wr.cell? ⟨wo.heap.size, 0, none⟩ = some (.int .i64 at') ∧ wr.cell? ⟨wo.heap.size, 1, none⟩ = some (.int .i64 x)) (fun i _ => 2 - (intOf i).toNat)
      case atStart => exact ⟨0, by omega, rfl, HBr.out.alloc HBr.out.size _, by simp, HD0.out, HD1.out⟩
      case round =>
        obtain ⟨k, hk, rfl, hB, hsz, hc0, hc1⟩ := hrel
        by_cases hk2 : k < 2
        · obtain ⟨p, hcell⟩ : ∃ p : Int, wr.cell? ⟨wo.heap.size, k, none⟩ = some (.int .i64 p) := by
            match k, hk2 with
            | 0, _ => exact ⟨at', hc0⟩
            | 1, _ => exact ⟨x, hc1⟩
          have HC0' := Lib.hid hc0
          have HC1' := Lib.hid hc1
          have hk2' : (k : Int) < 2 := by omega
          obtain ⟨a, y, e1, hI, hJ⟩ := Int_both T p (by have := HT2.out; omega)
          obtain ⟨R, z, e2, hS, hU⟩ := String_both T p (by have := HT2.out; omega)
          have HI := Lib.hid hI
          have HJ := Lib.hid hJ
          have HS := Lib.hid hS
          have HU := Lib.hid hU
          have HBr2 := Lib.hid hB
          have HSZ := Lib.hid hsz
          clear hc0 hc1 hk2 hk hI hJ hS hU hB hsz
          go_wp2_with fail
          refine (HI.out _).mono ?_; rintro e w3 ⟨rfl, hR⟩
          go_wp2_with fail
          refine (HJ.out _).mono ?_; rintro e w4 ⟨rfl, hB3⟩
          replace hR := belowStep hR hB3; clear hB3
          go_wp2_with fail
          refine (HS.out _).mono ?_; rintro e w5 ⟨rfl, hB3⟩
          replace hR := belowStep hR hB3; clear hB3
          go_wp2_with fail
          refine (HU.out _).mono ?_; rintro e w6 ⟨rfl, hB3⟩
          replace hR := belowStep hR hB3; clear hB3
          go_wp2_with fail
          go_roundw
          case rel => exact ⟨k + 1, by omega, by go_num, HBr2.out.trans (hR.mono HBr2.out.size), Nat.lt_of_lt_of_le HSZ.out hR.size, (hR.cell (p := ⟨wo.heap.size, 0, none⟩) HSZ.out).trans HC0'.out, (hR.cell (p := ⟨wo.heap.size, 1, none⟩) HSZ.out).trans HC1'.out⟩
          case measure => simp [intOf]; omega
        · have hk2' : 2 ≤ (k : Int) := by omega
          have HBr2 := Lib.hid hB
          clear hk2 hc0 hc1 hk hB hsz
          go_wp2_with fail
          refine (PutString_ok T _ (by have := HT2.out; omega)).mono ?_; rintro e w3 ⟨rfl, hR⟩
          have hQ := fun w => RefPutString_ok T w (by have := HT2.out; omega)
          generalize (⟨(enc T.size).toArray⟩ ++ T : ByteArray) = G at *
          have HQ := Lib.hid hQ
          clear hQ
          go_wp2_with fail
          refine (HQ.out _).mono ?_; rintro e w4 ⟨rfl, hB3⟩
          replace hR := belowStep hR hB3; clear hB3
          have HF := Lib.hid (HBr2.out.trans (hR.mono HBr2.out.size))
          have HTT := Lib.hid (HT.out.below HF.out HT.out.size)
          clear hR
          go_wp2_with fail
          refine (Sum_any T _ (by have := HT2.out; omega) HTT.out).mono ?_; rintro e w' ⟨rfl, rfl⟩
          have hQ2 := fun w => RefSum_any T w (by have := HT2.out; omega)
          generalize crcSum T.data.toList = q at *
          have HQ2 := Lib.hid hQ2
          clear hQ2
          go_wp2_with fail
          refine (HQ2.out _).mono ?_; rintro e w' ⟨rfl, rfl⟩
          go_wp2_with fail
          go_ret
          exact ⟨rfl, HF.out⟩
end Go.Proofs.YtlnbipldbbdnmaaDoor
