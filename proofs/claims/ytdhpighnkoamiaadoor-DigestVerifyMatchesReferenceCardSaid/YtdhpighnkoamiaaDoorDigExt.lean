/- The contract of VerifyExtension. -/
import Derived.Test.YtdhpighnkoamiaaDoorDigVerify
namespace Go.Proofs.YtdhpighnkoamiaaDoor
open Go.RowKit Putlog

/-- What VerifyExtension answers. -/
def extB (f : Nat → ByteArray) (old root : ByteArray) (m n : Int) (q : Nat) : Bool :=
  if 0 ≤ m ∧ m ≤ n ∧ old.size = 32 ∧ root.size = 32 ∧ digB f 0 q = true then
    (if m = 0 then (q == 0) && (old.toList == (shaB ByteArray.empty).toList)
     else (twoS f old m.toNat n.toNat q true).2.2 && ((twoS f old m.toNat n.toNat q true).1.toList == old.toList) && ((twoS f old m.toNat n.toNat q true).2.1.toList == root.toList))
  else false
def two (a b : ByteArray) : Nat → ByteArray := fun j => [a, b].getD j ByteArray.empty
theorem digB_two (a b : ByteArray) : digB (two a b) 0 2 = ((a.size == 32) && (b.size == 32)) := by
  simp [digB, two]

set_option maxRecDepth 100000 in
set_option maxHeartbeats 2000000 in
theorem VerifyExtension_any (f : Nat → ByteArray) (hf : ∀ j, (f j).size ≤ 140737488355327) (old root : ByteArray) (m n : Int) (q c : Nat) (a : Option Addr) (w : World)
    (hn2 : n ≤ 9223372036854775807) (hmc : q ≤ c) (hm : (q : Int) ≤ 1048576) (hs : SliceAt w a f q) (hT : TabAt w) :
    Calls Tryd.prog 31 #[.string old, .int .i64 m, .string root, .int .i64 n, .slice a q c] w fun e w' => e = .returned (.bool (extB f old root m n q)) ∧ Below w.heap.size w w' := by
  by_cases h0 : m < 0
  · have HV : Hid (extB f old root m n q = false) := by show extB f old root m n q = false; rw [extB, if_neg (by omega)]
    clear hs hT hmc hm hf
    go_enter Tryd.func31, Tryd.ntmps31
    go_wp2_with fail
    go_ret
    exact ⟨by rw [HV.out]; rfl, Below.refl _ _⟩
  by_cases h1 : n < m
  · have HV : Hid (extB f old root m n q = false) := by show extB f old root m n q = false; rw [extB, if_neg (by omega)]
    have hd : decide (m < 0) = false := by simpa using h0
    clear hs hT hmc hm hf
    go_enter Tryd.func31, Tryd.ntmps31
    go_wp2_with fail
    go_ret
    exact ⟨by rw [HV.out]; rfl, Below.refl _ _⟩
  have hd : decide (m < 0) = false := by simpa using h0
  have hd2 : decide (n < m) = false := by simpa using h1
  have HW : Hid (Calls Tryd.prog 48 #[.slice (some ⟨w.heap.size, 0, none⟩) 2 2] (w.alloc (.cells #[.string old, .string root] 9)) fun e w' => e = .returned (.bool ((old.size == 32) && (root.size == 32))) ∧ w.alloc (.cells #[.string old, .string root] 9) = w') := by
    have hA := ArrAt.new w #[.string old, .string root] 9
    have := digests_sl (two old root) 2 2 (some ⟨w.heap.size, 0, none⟩) (w.alloc (.cells #[.string old, .string root] 9)) (by omega) (fun _ => ⟨w.heap.size, 0, rfl, fun j hj => by
      match j, hj with
      | 0, _ | 1, _ => exact hA.cell rfl⟩)
    rw [digB_two] at this
    exact this
  have HBW : Hid (Below w.heap.size w (w.alloc (.cells #[.string old, .string root] 9))) := Lib.hid ((Below.refl _ _).alloc (Nat.le_refl _) _)
  have HS := Lib.hid (hs.below HBW.out)
  have HT := Lib.hid (hT.below HBW.out hT.size)
  cases hdd : (old.size == 32) && (root.size == 32) with
  | false =>
    have HV : Hid (extB f old root m n q = false) := by
      show extB f old root m n q = false
      rw [extB, if_neg]
      rintro ⟨_, _, h3, h4, _⟩
      rw [h3, h4] at hdd
      cases hdd
    rw [hdd] at HW
    clear hs hT hmc hm hf hdd
    go_enter Tryd.func31, Tryd.ntmps31
    go_wp2_with fail
    refine HW.out.mono ?_; rintro e w' ⟨rfl, rfl⟩
    go_wp2_with fail
    go_ret
    exact ⟨by rw [HV.out]; rfl, HBW.out⟩
  | true =>
  have h32 : old.size = 32 ∧ root.size = 32 := by simpa using hdd
  rw [hdd] at HW
  have HD := Lib.hid (fun w h => digests_sl f q c a w (by omega) h)
  cases hdig : digB f 0 q with
  | false =>
    have HV : Hid (extB f old root m n q = false) := by show extB f old root m n q = false; rw [extB, if_neg (by rw [hdig]; simp)]
    rw [hdig] at HD
    clear hs hT hmc hm hf hdd hdig h32
    go_enter Tryd.func31, Tryd.ntmps31
    go_wp2_with fail
    refine HW.out.mono ?_; rintro e w' ⟨rfl, rfl⟩
    go_wp2_with fail
    refine (HD.out _ HS.out).mono ?_; rintro e w' ⟨rfl, rfl⟩
    go_wp2_with fail
    go_ret
    exact ⟨by rw [HV.out]; rfl, HBW.out⟩
  | true =>
    rw [hdig] at HD
    by_cases hm0 : m = 0
    · subst hm0
      have hv : extB f old root 0 n q = ((q == 0) && (old.toList == (shaB ByteArray.empty).toList)) := by rw [extB, if_pos ⟨by omega, by omega, h32.1, h32.2, hdig⟩, if_pos rfl]
      have HR := Lib.hid (Root_zero none 0 _ HT.out)
      generalize shaB ByteArray.empty = z at *
      have HV := Lib.hid hv
      clear hs hT hmc hf hdd hdig h32 hv
      by_cases hq : q = 0
      · subst hq
        clear hm
        go_enter Tryd.func31, Tryd.ntmps31
        go_wp2_with fail
        refine HW.out.mono ?_; rintro e w' ⟨rfl, rfl⟩
        go_wp2_with fail
        refine (HD.out _ HS.out).mono ?_; rintro e w' ⟨rfl, rfl⟩
        go_wp2_with fail
        refine HR.out.mono ?_; rintro e w1 ⟨rfl, hB⟩
        go_wp2_with fail
        go_ret
        exact ⟨by rw [HV.out]; rfl, HBW.out.trans (hB.mono HBW.out.size)⟩
      · have hq1 : ((q : Int) == 0) = false := by simp; omega
        have HQ : Hid ((q == 0) = false) := by show (q == 0) = false; simp; omega
        clear hq hm
        go_enter Tryd.func31, Tryd.ntmps31
        go_wp2_with fail
        refine HW.out.mono ?_; rintro e w' ⟨rfl, rfl⟩
        go_wp2_with fail
        refine (HD.out _ HS.out).mono ?_; rintro e w' ⟨rfl, rfl⟩
        go_wp2_with fail
        go_ret
        exact ⟨by rw [HV.out, HQ.out]; rfl, HBW.out⟩
    · obtain ⟨k, rfl⟩ := Int.eq_ofNat_of_zero_le (by omega : 0 ≤ m)
      obtain ⟨p, rfl⟩ := Int.eq_ofNat_of_zero_le (by omega : 0 ≤ n)
      have hv : extB f old root k p q = ((twoS f old k p q true).2.2 && ((twoS f old k p q true).1.toList == old.toList) && ((twoS f old k p q true).2.1.toList == root.toList)) := by
        rw [extB, if_pos ⟨by omega, by omega, h32.1, h32.2, hdig⟩, if_neg hm0, Int.toNat_natCast, Int.toNat_natCast]
      have HTV := Lib.hid (twoValues_sl f hf old (by omega) k p q c true a _ (by omega) (by omega) hn2 hmc hm HS.out HT.out)
      have hk0 : ((k : Int) == 0) = false := by simp; omega
      generalize twoS f old k p q true = v at *
      obtain ⟨v1, v2, v3⟩ := v
      simp only at hv HTV
      have HV := Lib.hid hv
      clear hs hT hmc hm hf hdd hdig h32 hv hm0
      cases v3 with
      | false =>
        go_enter Tryd.func31, Tryd.ntmps31
        go_wp2_with fail
        refine HW.out.mono ?_; rintro e w' ⟨rfl, rfl⟩
        go_wp2_with fail
        refine (HD.out _ HS.out).mono ?_; rintro e w' ⟨rfl, rfl⟩
        go_wp2_with fail
        refine HTV.out.mono ?_; rintro e w1 ⟨rfl, hB⟩
        go_wp2_with fail
        go_ret
        exact ⟨by rw [HV.out]; rfl, HBW.out.trans (hB.mono HBW.out.size)⟩
      | true =>
        cases heq : (v1.toList == old.toList) with
        | false =>
          rw [heq] at HV
          go_enter Tryd.func31, Tryd.ntmps31
          go_wp2_with fail
          refine HW.out.mono ?_; rintro e w' ⟨rfl, rfl⟩
          go_wp2_with fail
          refine (HD.out _ HS.out).mono ?_; rintro e w' ⟨rfl, rfl⟩
          go_wp2_with fail
          refine HTV.out.mono ?_; rintro e w1 ⟨rfl, hB⟩
          go_wp2_with fail
          go_ret
          exact ⟨by rw [HV.out]; rfl, HBW.out.trans (hB.mono HBW.out.size)⟩
        | true =>
          rw [heq] at HV
          go_enter Tryd.func31, Tryd.ntmps31
          go_wp2_with fail
          refine HW.out.mono ?_; rintro e w' ⟨rfl, rfl⟩
          go_wp2_with fail
          refine (HD.out _ HS.out).mono ?_; rintro e w' ⟨rfl, rfl⟩
          go_wp2_with fail
          refine HTV.out.mono ?_; rintro e w1 ⟨rfl, hB⟩
          go_wp2_with fail
          go_ret
          exact ⟨by rw [HV.out]; rfl, HBW.out.trans (hB.mono HBW.out.size)⟩
end Go.Proofs.YtdhpighnkoamiaaDoor
