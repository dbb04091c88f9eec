/- The contracts of the reference's Root, Proof and Extension over slices; those of both, whatever the number. -/
import Derived.Test.YtdhpighnkoamiaaDoorDigRefPart
import Derived.Test.YtdhpighnkoamiaaDoorDigRefProof
import Derived.Test.YtdhpighnkoamiaaDoorDigHeads
namespace Go.Proofs.YtdhpighnkoamiaaDoor
open Go.RowKit Putlog

theorem rRoot_sl (f : Nat → ByteArray) (hf : ∀ j, (f j).size ≤ 1000) (n c : Nat) (a : Option Addr) (w : World) (hn : (n : Int) ≤ 1048576) (hnc : n ≤ c) (hc : (c : Int) ≤ 9223372036854775807) (hs : SliceAt w a f n) (hT : TabAt w) :
    Calls Tryd.prog 28 #[.slice a n c] w fun e w' => e = .returned (.string (rootS f 0 n)) ∧ Below w.heap.size w w' := by
  rcases Nat.eq_zero_or_pos n with rfl | h0
  · rw [rootS_zero]; exact rRoot_zero a c w hT
  · obtain ⟨b, o, rfl, hcells⟩ := hs h0
    refine (rRoot_all b o (o + n) (fun x => f (x - o)) (fun j => hf _) n n o c w (Nat.le_refl _) h0 (by omega) (Nat.le_refl _) (Nat.le_refl _) hnc (by omega) (SliceAt.good hT hcells)).mono fun e w' ⟨he, hB, _⟩ => ⟨?_, hB⟩
    rw [he, rootS_un]
set_option maxHeartbeats 400000 in
theorem rProof_no (n c : Nat) (a : Option Addr) (i : Int) (w : World) (hn : (n : Int) ≤ 1048576) (h : i < 0 ∨ (n : Int) ≤ i) :
    Calls Tryd.prog 23 #[.slice a n c, .int .i64 i] w fun e w' => e = .returned (.tuple #[.slice none 0 0, .int .i64 2]) ∧ w = w' := by
  by_cases h0 : i < 0
  · clear h
    go_enter Tryd.func23, Tryd.ntmps23
    go_wp2_with fail
    go_ret2
    exact ⟨rfl, rfl⟩
  · have h1 : (n : Int) ≤ i := by omega
    have hd : decide (i < 0) = false := by simpa using h0
    clear h
    go_enter Tryd.func23, Tryd.ntmps23
    go_wp2_with fail
    go_ret2
    exact ⟨rfl, rfl⟩
theorem rProof_ok (f : Nat → ByteArray) (hf : ∀ j, (f j).size ≤ 1000) (n c : Nat) (a : Option Addr) (i : Nat) (w : World) (hn : (n : Int) ≤ 1048576) (hnc : n ≤ c) (hc : (c : Int) ≤ 9223372036854775807) (hi : i < n) (hs : SliceAt w a f n) (hT : TabAt w) :
    Calls Tryd.prog 23 #[.slice a n c, .int .i64 i] w (GivesPair (besideS f 0 n i) w) := by
  obtain ⟨b, o, rfl, hcells⟩ := hs (by omega)
  have HB := rproof_all b o (o + n) (fun x => f (x - o)) (fun j => hf _) n n i o c w (Nat.le_refl _) (by omega) hn hi (Nat.le_refl _) (Nat.le_refl _) hnc hc (SliceAt.good hT hcells)
  rw [besideS_un] at HB
  refine HB.mono fun e w' ⟨v, he, hown, hB, hG⟩ => ?_
  obtain ⟨v', hv, hsl⟩ := GivesRow.slice (e := .returned v) ⟨v, rfl, hown, hB, hG⟩
  obtain rfl : v = v' := by cases hv; rfl
  exact ⟨v, he, hsl⟩
set_option maxHeartbeats 400000 in
theorem rExtension_no (n c : Nat) (a : Option Addr) (i : Int) (w : World) (hn : (n : Int) ≤ 1048576) (h : i < 0 ∨ (n : Int) < i) :
    Calls Tryd.prog 25 #[.slice a n c, .int .i64 i] w fun e w' => e = .returned (.tuple #[.slice none 0 0, .int .i64 2]) ∧ w = w' := by
  by_cases h0 : i < 0
  · clear h
    go_enter Tryd.func25, Tryd.ntmps25
    go_wp2_with fail
    go_ret2
    exact ⟨rfl, rfl⟩
  · have h1 : (n : Int) < i := by omega
    have hd : decide (i < 0) = false := by simpa using h0
    clear h
    go_enter Tryd.func25, Tryd.ntmps25
    go_wp2_with fail
    go_ret2
    exact ⟨rfl, rfl⟩
set_option maxHeartbeats 400000 in
theorem rExtension_ok (f : Nat → ByteArray) (hf : ∀ j, (f j).size ≤ 1000) (n c : Nat) (a : Option Addr) (i : Nat) (w : World) (hn : (n : Int) ≤ 1048576) (hnc : n ≤ c) (hc : (c : Int) ≤ 9223372036854775807) (hi : i ≤ n) (hs : SliceAt w a f n) (hT : TabAt w) :
    Calls Tryd.prog 25 #[.slice a n c, .int .i64 i] w (GivesPair (extS f n i) w) := by
  rcases Nat.eq_zero_or_pos i with rfl | h0
  · have HG : Hid (GivesPair (extS f n 0) w (.returned (.tuple #[.slice none 0 0, .int .i64 0])) w) := by
      show GivesPair _ _ _ _
      rw [extS, if_pos rfl]
      exact ⟨_, rfl, none, 0, rfl, Nat.le_refl _, by omega, SliceAt.zero _ _ _, Below.refl _ _⟩
    clear hs hT hnc hc hf
    go_enter Tryd.func25, Tryd.ntmps25
    go_wp2_with fail
    go_ret2
    exact HG.out
  · obtain ⟨b, o, rfl, hcells⟩ := hs (by omega)
    have HB := Lib.hid (rpart_all b o (o + n) (fun x => f (x - o)) (fun j => hf _) n n i o c true w (Nat.le_refl _) h0 hi hn (Nat.le_refl _) (Nat.le_refl _) hnc hc (SliceAt.good hT hcells))
    rw [partS_un f o n i true h0 hi] at HB
    have he : extS f n i = partS f 0 n i true := by rw [extS, if_neg (by omega)]
    rw [← he] at HB
    have h1 : (i : Int) ≤ n := by omega
    have hd : decide ((i : Int) < 0) = false := by simp
    have hd2 : decide (n < i) = false := by simpa using hi
    have hd3 : ((i : Int) == 0) = false := by simp; omega
    clear hs hcells hT hnc hc hn hf he h0
    go_enter Tryd.func25, Tryd.ntmps25
    go_wp2_with fail
    refine HB.out.mono ?_
    intro e w1 hg
    obtain ⟨v, rfl, hg2⟩ := hg.slice
    have HG := Lib.hid hg2
    clear hg hg2
    go_wp2_with fail
    go_ret2
    exact ⟨v, rfl, HG.out⟩
/-- Whatever the number. -/
def prS (f : Nat → ByteArray) (n : Nat) (i : Int) : List ByteArray := if 0 ≤ i ∧ i < n then besideS f 0 n i.toNat else []
def prE (n : Nat) (i : Int) : Int := if 0 ≤ i ∧ i < n then 0 else 2
def exS (f : Nat → ByteArray) (n : Nat) (i : Int) : List ByteArray := if 0 ≤ i ∧ i ≤ n then extS f n i.toNat else []
def exE (n : Nat) (i : Int) : Int := if 0 ≤ i ∧ i ≤ n then 0 else 2
def GivesCode (xs : List ByteArray) (k : Int) (w : World) (e : Ending) (w' : World) : Prop := ∃ v, e = .returned (.tuple #[v, .int .i64 k]) ∧ GivesSlice xs w v w'
theorem GivesCode.no (k : Int) (w : World) : GivesCode [] k w (.returned (.tuple #[.slice none 0 0, .int .i64 k])) w := ⟨_, rfl, none, 0, rfl, Nat.le_refl _, by omega, SliceAt.zero _ _ _, Below.refl _ _⟩
theorem Proof_code (f : Nat → ByteArray) (hf : ∀ j, (f j).size ≤ 140737488355327) (n c : Nat) (a : Option Addr) (i : Int) (w : World) (hn : (n : Int) ≤ 1048576) (hnc : n ≤ c) (hc : (c : Int) ≤ 9223372036854775807) (hs : SliceAt w a f n) (hT : TabAt w) :
    Calls Tryd.prog 22 #[.slice a n c, .int .i64 i] w (GivesCode (prS f n i) (prE n i) w) := by
  by_cases h : 0 ≤ i ∧ i < n
  · rw [prS, if_pos h, prE, if_pos h]
    obtain ⟨k, rfl⟩ := Int.eq_ofNat_of_zero_le h.1
    rw [Int.toNat_natCast]
    exact Proof_ok f hf n c a k w hn hnc hc (by omega) hs hT
  · rw [prS, if_neg h, prE, if_neg h]
    refine (Proof_no n c a i w hn (by omega)).mono ?_
    rintro e w' ⟨rfl, rfl⟩
    exact GivesCode.no 2 w
theorem Extension_code (f : Nat → ByteArray) (hf : ∀ j, (f j).size ≤ 140737488355327) (n c : Nat) (a : Option Addr) (i : Int) (w : World) (hn : (n : Int) ≤ 1048576) (hnc : n ≤ c) (hc : (c : Int) ≤ 9223372036854775807) (hs : SliceAt w a f n) (hT : TabAt w) :
    Calls Tryd.prog 24 #[.slice a n c, .int .i64 i] w (GivesCode (exS f n i) (exE n i) w) := by
  by_cases h : 0 ≤ i ∧ i ≤ n
  · rw [exS, if_pos h, exE, if_pos h]
    obtain ⟨k, rfl⟩ := Int.eq_ofNat_of_zero_le h.1
    rw [Int.toNat_natCast]
    exact Extension_ok f hf n c a k w hn hnc hc (by omega) hs hT
  · rw [exS, if_neg h, exE, if_neg h]
    refine (Extension_no n c a i w hn (by omega)).mono ?_
    rintro e w' ⟨rfl, rfl⟩
    exact GivesCode.no 2 w
theorem rProof_code (f : Nat → ByteArray) (hf : ∀ j, (f j).size ≤ 1000) (n c : Nat) (a : Option Addr) (i : Int) (w : World) (hn : (n : Int) ≤ 1048576) (hnc : n ≤ c) (hc : (c : Int) ≤ 9223372036854775807) (hs : SliceAt w a f n) (hT : TabAt w) :
    Calls Tryd.prog 23 #[.slice a n c, .int .i64 i] w (GivesCode (prS f n i) (prE n i) w) := by
  by_cases h : 0 ≤ i ∧ i < n
  · rw [prS, if_pos h, prE, if_pos h]
    obtain ⟨k, rfl⟩ := Int.eq_ofNat_of_zero_le h.1
    rw [Int.toNat_natCast]
    exact rProof_ok f hf n c a k w hn hnc hc (by omega) hs hT
  · rw [prS, if_neg h, prE, if_neg h]
    refine (rProof_no n c a i w hn (by omega)).mono ?_
    rintro e w' ⟨rfl, rfl⟩
    exact GivesCode.no 2 w
theorem rExtension_code (f : Nat → ByteArray) (hf : ∀ j, (f j).size ≤ 1000) (n c : Nat) (a : Option Addr) (i : Int) (w : World) (hn : (n : Int) ≤ 1048576) (hnc : n ≤ c) (hc : (c : Int) ≤ 9223372036854775807) (hs : SliceAt w a f n) (hT : TabAt w) :
    Calls Tryd.prog 25 #[.slice a n c, .int .i64 i] w (GivesCode (exS f n i) (exE n i) w) := by
  by_cases h : 0 ≤ i ∧ i ≤ n
  · rw [exS, if_pos h, exE, if_pos h]
    obtain ⟨k, rfl⟩ := Int.eq_ofNat_of_zero_le h.1
    rw [Int.toNat_natCast]
    exact rExtension_ok f hf n c a k w hn hnc hc (by omega) hs hT
  · rw [exS, if_neg h, exE, if_neg h]
    refine (rExtension_no n c a i w hn (by omega)).mono ?_
    rintro e w' ⟨rfl, rfl⟩
    exact GivesCode.no 2 w
theorem prS_len (f : Nat → ByteArray) (n : Nat) (i : Int) : (prS f n i).length ≤ n := by
  unfold prS; split
  · exact besideS_len f n n 0 _ (Nat.le_refl _)
  · simp
theorem exS_len (f : Nat → ByteArray) (n : Nat) (i : Int) : (exS f n i).length ≤ n := by
  unfold exS; split
  · rename_i h
    rw [extS]; split
    · simp
    · exact partS_len f n n 0 _ true (Nat.le_refl _) (by omega)
  · simp
theorem SameS.refl (xs : List ByteArray) : SameS xs xs := ⟨rfl, fun _ _ => rfl⟩
end Go.Proofs.YtdhpighnkoamiaaDoor
