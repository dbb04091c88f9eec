/- The contracts of Proof, Extension, Verify and VerifyExtension. -/
import Derived.Test.YtdhpighnkoamiaaDoorDigApi
namespace Go.Proofs.YtdhpighnkoamiaaDoor
open Go.RowKit Putlog

theorem GivesRow.slice {b lo hi : Nat} {ss : Nat → ByteArray} {xs : List ByteArray} {w : World} {e : Ending} {w' : World} (h : GivesRow b ss lo hi xs w e w') : ∃ v, e = .returned v ∧ GivesSlice xs w v w' := by
  obtain ⟨v, he, hown, hB, _⟩ := h
  refine ⟨v, he, ?_⟩
  obtain ⟨_, hv | ⟨g, cap, cur, hv, hg, hh, h1, h2, h3, h4⟩⟩ := hown
  · refine ⟨none, 0, ?_, by omega, by omega, ?_, hB⟩
    · rw [hv.1, hv.2]
    · rw [hv.2]; exact SliceAt.zero _ _ _
  · refine ⟨some ⟨g, 0, none⟩, cap, hv, h1, by unfold maxLen at h2; omega, fun _ => ⟨g, 0, rfl, fun j hj => ?_⟩, hB⟩
    rw [Nat.zero_add, cell_of_row w' g j cur _ (0, 0) hh]
    rw [Nat.mul_one] at h4
    have h5 : (cur.toList.take xs.length)[j]? = (xs.map Value.string)[j]? := by rw [h4]
    rw [List.getElem?_take_of_lt hj] at h5
    rw [Array.getElem?_toList] at h5
    rw [h5]
    simp [List.getD_eq_getElem?_getD, hj]
/-- A row and an error of zero. -/
def GivesPair (xs : List ByteArray) (w : World) (e : Ending) (w' : World) : Prop := ∃ v, e = .returned (.tuple #[v, .int .i64 0]) ∧ GivesSlice xs w v w'

set_option maxHeartbeats 400000 in
theorem Proof_no (n c : Nat) (a : Option Addr) (i : Int) (w : World) (hn : (n : Int) ≤ 1048576) (h : i < 0 ∨ (n : Int) ≤ i) :
    Calls Tryd.prog 22 #[.slice a n c, .int .i64 i] w fun e w' => e = .returned (.tuple #[.slice none 0 0, .int .i64 2]) ∧ w = w' := by
  by_cases h0 : i < 0
  · clear h
    go_enter Tryd.func22, Tryd.ntmps22
    go_wp2_with fail
    go_ret2
    exact ⟨rfl, rfl⟩
  · have h1 : (n : Int) ≤ i := by omega
    have hd : decide (i < 0) = false := by simpa using h0
    clear h
    go_enter Tryd.func22, Tryd.ntmps22
    go_wp2_with fail
    go_ret2
    exact ⟨rfl, rfl⟩
set_option maxHeartbeats 400000 in
theorem Proof_ok (f : Nat → ByteArray) (hf : ∀ j, (f j).size ≤ 140737488355327) (n c : Nat) (a : Option Addr) (i : Nat) (w : World) (hn : (n : Int) ≤ 1048576) (hnc : n ≤ c) (hc : (c : Int) ≤ 9223372036854775807) (hi : i < n) (hs : SliceAt w a f n) (hT : TabAt w) :
    Calls Tryd.prog 22 #[.slice a n c, .int .i64 i] w (GivesPair (besideS f 0 n i) w) := by
  obtain ⟨b, o, rfl, hcells⟩ := hs (by omega)
  have HB := Lib.hid (beside_all b o (o + n) (fun x => f (x - o)) (fun j => hf _) n n i o c w (Nat.le_refl _) (by omega) hn hi (Nat.le_refl _) (Nat.le_refl _) hnc hc (SliceAt.good hT hcells))
  rw [besideS_un] at HB
  have h1 : (i : Int) < n := by omega
  have hd : decide ((i : Int) < 0) = false := by simp
  have hd2 : decide (n ≤ i) = false := by simpa using hi
  clear hs hcells hT hnc hc hn hf
  go_enter Tryd.func22, Tryd.ntmps22
  go_wp2_with fail
  refine HB.out.mono ?_
  intro e w1 hg
  obtain ⟨v, rfl, hg2⟩ := hg.slice
  have HG := Lib.hid hg2
  clear hg hg2
  go_wp2_with fail
  go_ret2
  exact ⟨v, rfl, HG.out⟩
/-- The proof that the first m of n strings begin them. -/
def extS (f : Nat → ByteArray) (n m : Nat) : List ByteArray := if m = 0 then [] else partS f 0 n m true
set_option maxHeartbeats 400000 in
theorem Extension_no (n c : Nat) (a : Option Addr) (i : Int) (w : World) (hn : (n : Int) ≤ 1048576) (h : i < 0 ∨ (n : Int) < i) :
    Calls Tryd.prog 24 #[.slice a n c, .int .i64 i] w fun e w' => e = .returned (.tuple #[.slice none 0 0, .int .i64 2]) ∧ w = w' := by
  by_cases h0 : i < 0
  · clear h
    go_enter Tryd.func24, Tryd.ntmps24
    go_wp2_with fail
    go_ret2
    exact ⟨rfl, rfl⟩
  · have h1 : (n : Int) < i := by omega
    have hd : decide (i < 0) = false := by simpa using h0
    clear h
    go_enter Tryd.func24, Tryd.ntmps24
    go_wp2_with fail
    go_ret2
    exact ⟨rfl, rfl⟩
set_option maxHeartbeats 400000 in
theorem Extension_ok (f : Nat → ByteArray) (hf : ∀ j, (f j).size ≤ 140737488355327) (n c : Nat) (a : Option Addr) (i : Nat) (w : World) (hn : (n : Int) ≤ 1048576) (hnc : n ≤ c) (hc : (c : Int) ≤ 9223372036854775807) (hi : i ≤ n) (hs : SliceAt w a f n) (hT : TabAt w) :
    Calls Tryd.prog 24 #[.slice a n c, .int .i64 i] w (GivesPair (extS f n i) w) := by
  rcases Nat.eq_zero_or_pos i with rfl | h0
  · have HG : Hid (GivesPair (extS f n 0) w (.returned (.tuple #[.slice none 0 0, .int .i64 0])) w) := by
      show GivesPair _ _ _ _
      rw [extS, if_pos rfl]
      exact ⟨_, rfl, none, 0, rfl, Nat.le_refl _, by omega, SliceAt.zero _ _ _, Below.refl _ _⟩
    clear hs hT hnc hc hf
    go_enter Tryd.func24, Tryd.ntmps24
    go_wp2_with fail
    go_ret2
    exact HG.out
  · obtain ⟨b, o, rfl, hcells⟩ := hs (by omega)
    have HB := Lib.hid (part_all b o (o + n) (fun x => f (x - o)) (fun j => hf _) n n i o c true w (Nat.le_refl _) h0 hi hn (Nat.le_refl _) (Nat.le_refl _) hnc hc (SliceAt.good hT hcells))
    rw [partS_un f o n i true h0 hi] at HB
    have he : extS f n i = partS f 0 n i true := by rw [extS, if_neg (by omega)]
    rw [← he] at HB
    have h1 : (i : Int) ≤ n := by omega
    have hd : decide ((i : Int) < 0) = false := by simp
    have hd2 : decide (n < i) = false := by simpa using hi
    have hd3 : ((i : Int) == 0) = false := by simp; omega
    clear hs hcells hT hnc hc hn hf he h0
    go_enter Tryd.func24, Tryd.ntmps24
    go_wp2_with fail
    refine HB.out.mono ?_
    intro e w1 hg
    obtain ⟨v, rfl, hg2⟩ := hg.slice
    have HG := Lib.hid hg2
    clear hg hg2
    go_wp2_with fail
    go_ret2
    exact ⟨v, rfl, HG.out⟩

/-- What Verify answers. -/
def verB (f : Nat → ByteArray) (root s : ByteArray) (n i : Int) (m : Nat) : Bool :=
  if 0 ≤ i ∧ i < n ∧ digB f 0 m = true then (valueS f s n.toNat i.toNat m).2 && ((valueS f s n.toNat i.toNat m).1.toList == root.toList) else false
set_option maxRecDepth 100000 in
set_option maxHeartbeats 1000000 in
theorem Verify_any (f : Nat → ByteArray) (hf : ∀ j, (f j).size ≤ 140737488355327) (root s : ByteArray) (hss : s.size ≤ 140737488355327) (n i : Int) (m c : Nat) (a : Option Addr) (w : World)
    (hn2 : n ≤ 9223372036854775807) (hmc : m ≤ c) (hm : (m : Int) ≤ 1048576) (hs : SliceAt w a f m) (hT : TabAt w) :
    Calls Tryd.prog 29 #[.string root, .int .i64 n, .int .i64 i, .string s, .slice a m c] w fun e w' => e = .returned (.bool (verB f root s n i m)) ∧ Below w.heap.size w w' := by
  by_cases h0 : i < 0
  · have HV : Hid (verB f root s n i m = false) := by show verB f root s n i m = false; rw [verB, if_neg (by omega)]
    clear hs hT hmc hm hf
    go_enter Tryd.func29, Tryd.ntmps29
    go_wp2_with fail
    go_ret
    exact ⟨by rw [HV.out]; rfl, Below.refl _ _⟩
  by_cases h1 : n ≤ i
  · have HV : Hid (verB f root s n i m = false) := by show verB f root s n i m = false; rw [verB, if_neg (by omega)]
    have hd : decide (i < 0) = false := by simpa using h0
    clear hs hT hmc hm hf
    go_enter Tryd.func29, Tryd.ntmps29
    go_wp2_with fail
    go_ret
    exact ⟨by rw [HV.out]; rfl, Below.refl _ _⟩
  have hd : decide (i < 0) = false := by simpa using h0
  have hd2 : decide (n ≤ i) = false := by simpa using h1
  have HD := Lib.hid (fun w h => digests_sl f m c a w (by omega) h)
  have HS := Lib.hid hs
  have HT := Lib.hid hT
  cases hdig : digB f 0 m with
  | false =>
    have HV : Hid (verB f root s n i m = false) := by show verB f root s n i m = false; rw [verB, if_neg (by rw [hdig]; simp)]
    rw [hdig] at HD
    clear hs hT hmc hm hf hdig
    go_enter Tryd.func29, Tryd.ntmps29
    go_wp2_with fail
    refine (HD.out _ HS.out).mono ?_; rintro e w' ⟨rfl, rfl⟩
    go_wp2_with fail
    go_ret
    exact ⟨by rw [HV.out]; rfl, Below.refl _ _⟩
  | true =>
    obtain ⟨k, rfl⟩ := Int.eq_ofNat_of_zero_le (by omega : 0 ≤ i)
    obtain ⟨p, rfl⟩ := Int.eq_ofNat_of_zero_le (by omega : 0 ≤ n)
    have hv : verB f root s p k m = ((valueS f s p k m).2 && ((valueS f s p k m).1.toList == root.toList)) := by rw [verB, if_pos ⟨by omega, by omega, hdig⟩, Int.toNat_natCast, Int.toNat_natCast]
    have HVO := Lib.hid (valueOf_sl f hf s hss p k m c a w (by omega) hn2 (by omega) hmc hm hs hT)
    rw [hdig] at HD
    generalize valueS f s p k m = v at *
    obtain ⟨v1, v2⟩ := v
    simp only at hv HVO
    have HV := Lib.hid hv
    clear hs hT hmc hm hf hdig hv
    cases v2 with
    | false =>
      go_enter Tryd.func29, Tryd.ntmps29
      go_wp2_with fail
      refine (HD.out _ HS.out).mono ?_; rintro e w' ⟨rfl, rfl⟩
      go_wp2_with fail
      refine HVO.out.mono ?_; rintro e w1 ⟨rfl, hB⟩
      go_wp2_with fail
      go_ret
      exact ⟨by rw [HV.out]; rfl, hB⟩
    | true =>
      go_enter Tryd.func29, Tryd.ntmps29
      go_wp2_with fail
      refine (HD.out _ HS.out).mono ?_; rintro e w' ⟨rfl, rfl⟩
      go_wp2_with fail
      refine HVO.out.mono ?_; rintro e w1 ⟨rfl, hB⟩
      go_wp2_with fail
      go_ret
      exact ⟨by rw [HV.out]; rfl, hB⟩
end Go.Proofs.YtdhpighnkoamiaaDoor
