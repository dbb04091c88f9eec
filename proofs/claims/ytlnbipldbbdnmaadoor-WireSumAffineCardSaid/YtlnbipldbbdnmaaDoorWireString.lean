/- The contracts of Int out of its offsets, String and PutString. -/
import Derived.Test.YtlnbipldbbdnmaaDoorShelf
import Derived.Test.YtlnbipldbbdnmaaDoorWireInt
namespace Go.Proofs.YtlnbipldbbdnmaaDoor
open Go.RowKit Putlog

set_option maxHeartbeats 400000 in
theorem Int_out (s : ByteArray) (p : Int) (w : World) (h : p < 0 ∨ (s.size : Int) < p) :
    Calls Tryd.prog 15 #[.string s, .int .i64 p] w fun e w' => e = .returned (.tuple #[.int .i64 0, .int .i64 0, .int .i64 2]) ∧ w = w' := by
  rcases h with h | h
  all_goals
    go_enter Tryd.func15, Tryd.ntmps15
    go_wp2
    go_ret3
    exact ⟨rfl, rfl⟩
theorem Int_none (s : ByteArray) (p : Nat) (w : World) (hs : s.size ≤ 9223372036854775807) (hp : p ≤ s.size) (h : dec 0 0 (s.data.toList.drop p) = none) :
    Calls Tryd.prog 15 #[.string s, .int .i64 p] w fun e w' => e = .returned (.tuple #[.int .i64 0, .int .i64 0, .int .i64 10]) ∧ w = w' :=
  (Int_at s p w hs hp).mono fun _ _ ⟨he, hw⟩ => ⟨by rw [he, intEnd_none h], hw⟩
theorem Int_some (s : ByteArray) (p z k : Nat) (w : World) (hs : s.size ≤ 9223372036854775807) (hp : p ≤ s.size) (h : dec 0 0 (s.data.toList.drop p) = some (z, k)) :
    Calls Tryd.prog 15 #[.string s, .int .i64 p] w fun e w' => e = .returned (.tuple #[.int .i64 (zag z), .int .i64 ((p + k : Nat) : Int), .int .i64 0]) ∧ w = w' :=
  (Int_at s p w hs hp).mono fun _ _ ⟨he, hw⟩ => ⟨by rw [he, intEnd_some h], hw⟩

set_option maxHeartbeats 400000 in
theorem Clone_any (s : ByteArray) (w : World) (h : s.size ≤ 281474976710656) :
    Calls Tryd.prog 27 #[.string s] w fun e w' => e = .returned (.string s) ∧ Below w.heap.size w w' := by
  go_enter Tryd.func27, Tryd.ntmps27
  go_wp2_with (go_at_call 29; refine (Tryd.stringslite_Clone s w h).mono ?_; rintro e w' ⟨rfl, hB⟩)
  go_ret
  exact ⟨rfl, hB⟩

/-- What String hands back where there is none. -/
def strNo (c : Int) : Ending := .returned (.tuple #[.string ⟨#[]⟩, .int .i64 0, .int .i64 c])
def strEnd (l : List UInt8) (p : Nat) : Ending := match dec 0 0 (l.drop p) with
  | none => strNo 10
  | some (z, k) => if zag z < 0 ∨ 65536 < zag z ∨ (l.length : Int) - ((p + k : Nat) : Int) < zag z then strNo 10
    else .returned (.tuple #[.string ⟨((l.drop (p + k)).take (zag z).toNat).toArray⟩, .int .i64 (((p + k : Nat) : Int) + zag z), .int .i64 0])
theorem ba_size (l : List UInt8) : (⟨l.toArray⟩ : ByteArray).size = l.length := by simp [ByteArray.size]
theorem extract_list (s : ByteArray) (a n : Nat) : s.extract a (a + n) = ⟨((s.data.toList.drop a).take n).toArray⟩ := by
  apply ByteArray.ext
  apply Array.toList_inj.1
  simp [List.extract_eq_take_drop]

set_option maxRecDepth 100000 in
set_option maxHeartbeats 1000000 in
theorem String_out (s : ByteArray) (p : Int) (w : World) (h : p < 0 ∨ (s.size : Int) < p) :
    Calls Tryd.prog 17 #[.string s, .int .i64 p] w fun e w' => e = strNo 2 ∧ w = w' := by
  go_enter Tryd.func17, Tryd.ntmps17
  go_wp2_with (go_at_call 15; refine (Int_out s p w h).mono ?_; rintro e w' ⟨rfl, rfl⟩)
  go_ret3
  exact ⟨rfl, rfl⟩
set_option maxRecDepth 100000 in
set_option maxHeartbeats 1000000 in
theorem String_none (s : ByteArray) (p : Nat) (w : World) (hs : s.size ≤ 9223372036854775807) (hp : p ≤ s.size) (h : dec 0 0 (s.data.toList.drop p) = none) :
    Calls Tryd.prog 17 #[.string s, .int .i64 p] w fun e w' => e = strNo 10 ∧ w = w' := by
  have H := Lib.hid h
  clear h
  go_enter Tryd.func17, Tryd.ntmps17
  go_wp2_with (go_at_call 15; refine (Int_none s p w hs hp H.out).mono ?_; rintro e w' ⟨rfl, rfl⟩)
  go_ret3
  exact ⟨rfl, rfl⟩
set_option maxRecDepth 100000 in
set_option maxHeartbeats 2000000 in
theorem String_some (s : ByteArray) (p z k : Nat) (w : World) (hs : s.size ≤ 9223372036854775807) (hp : p ≤ s.size) (h : dec 0 0 (s.data.toList.drop p) = some (z, k)) :
    Calls Tryd.prog 17 #[.string s, .int .i64 p] w fun e w' => e = strEnd s.data.toList p ∧ Below w.heap.size w w' := by
  have hk := dec_le h
  simp at hk
  have hpk : p + k ≤ s.size := by omega
  have hpk' : ((p + k : Nat) : Int) ≤ s.size := by omega
  have hs0 : (s.size : Int) ≤ 9223372036854775807 := by omega
  obtain ⟨hzm, _, _⟩ := dec_some h
  obtain ⟨hn0, hn1⟩ := zag_bd hzm
  have hend : strEnd s.data.toList p = if zag z < 0 ∨ 65536 < zag z ∨ (s.size : Int) - ((p + k : Nat) : Int) < zag z then strNo 10
    else .returned (.tuple #[.string (s.extract (p + k) (p + k + (zag z).toNat)), .int .i64 (((p + k : Nat) : Int) + zag z), .int .i64 0]) := by
    unfold strEnd; rw [h, extract_list]; simp
  have hI := fun w => Int_some s p z k w hs hp h
  generalize zag z = n at *
  generalize hq : p + k = q at *
  have HI := Lib.hid hI
  clear hI hk h hzm hq hs hp
  by_cases c1 : n < 0
  · have HE : Hid (strEnd s.data.toList p = strNo 10) := by rw [hend, if_pos (by omega)]; rfl
    clear hend
    go_enter Tryd.func17, Tryd.ntmps17
    go_wp2_with (go_at_call 15; refine (HI.out _).mono ?_; rintro e w' ⟨rfl, rfl⟩)
    go_ret3
    exact ⟨HE.out.symm, Below.refl _ _⟩
  by_cases c2 : 65536 < n
  · have HE : Hid (strEnd s.data.toList p = strNo 10) := by rw [hend, if_pos (by omega)]; rfl
    clear hend
    go_enter Tryd.func17, Tryd.ntmps17
    go_wp2_with (go_at_call 15; refine (HI.out _).mono ?_; rintro e w' ⟨rfl, rfl⟩)
    go_ret3
    exact ⟨HE.out.symm, Below.refl _ _⟩
  by_cases c3 : (s.size : Int) - (q : Int) < n
  · have HE : Hid (strEnd s.data.toList p = strNo 10) := by rw [hend, if_pos (by omega)]; rfl
    clear hend
    go_enter Tryd.func17, Tryd.ntmps17
    go_wp2_with (go_at_call 15; refine (HI.out _).mono ?_; rintro e w' ⟨rfl, rfl⟩)
    go_ret3
    exact ⟨HE.out.symm, Below.refl _ _⟩
  · obtain ⟨m, rfl⟩ := Int.eq_ofNat_of_zero_le (Int.not_lt.1 c1)
    rw [if_neg (by omega), Int.toNat_natCast] at hend
    have HE := Lib.hid hend
    have c3' : (q : Int) + m ≤ s.size := by omega
    have c2' : (m : Int) ≤ 65536 := by omega
    have hsz : (s.extract q (q + m)).size ≤ 281474976710656 := by simp; omega
    have HS := Lib.hid hsz
    clear hend c1 c2 c3 hn0 hn1 hpk hsz
    go_enter Tryd.func17, Tryd.ntmps17
    go_wp2_with (first | (go_at_call 15; refine (HI.out _).mono ?_; rintro e w' ⟨rfl, rfl⟩) | (go_at_call 27; go_loud (refine (Clone_any (s.extract q (q + m)) _ HS.out).mono ?_); rintro e w' ⟨rfl, hB⟩))
    go_ret3
    exact ⟨HE.out.symm, hB⟩
theorem String_at (s : ByteArray) (p : Nat) (w : World) (hs : s.size ≤ 9223372036854775807) (hp : p ≤ s.size) :
    Calls Tryd.prog 17 #[.string s, .int .i64 p] w fun e w' => e = strEnd s.data.toList p ∧ Below w.heap.size w w' := by
  cases h : dec 0 0 (s.data.toList.drop p) with
  | none => exact (String_none s p w hs hp h).mono fun _ _ ⟨he, hw⟩ => ⟨by rw [he]; unfold strEnd; rw [h], hw ▸ Below.refl _ _⟩
  | some x => exact String_some s p x.1 x.2 w hs hp h

set_option maxRecDepth 100000 in
set_option maxHeartbeats 400000 in
theorem PutString_no (s : ByteArray) (w : World) (hs : 65536 < s.size) (hs2 : s.size ≤ 9223372036854775807) :
    Calls Tryd.prog 19 #[.string s] w fun e w' => e = .returned (.tuple #[.string ⟨#[]⟩, .int .i64 10]) ∧ w = w' := by
  have h1 : 65536 < (s.size : Int) := by omega
  go_enter Tryd.func19, Tryd.ntmps19
  go_wp2_with fail
  go_ret2
  exact ⟨rfl, rfl⟩
set_option maxRecDepth 100000 in
set_option maxHeartbeats 400000 in
theorem PutString_ok (s : ByteArray) (w : World) (hs : s.size ≤ 65536) :
    Calls Tryd.prog 19 #[.string s] w fun e w' => e = .returned (.tuple #[.string (⟨(enc s.size).toArray⟩ ++ s), .int .i64 0]) ∧ Below w.heap.size w w' := by
  have h1 : (s.size : Int) ≤ 65536 := by omega
  have h2 := enc_len_le (n := s.size) (by omega) (by omega)
  have h3 : ((⟨(enc s.size).toArray⟩ : ByteArray).size : Int) ≤ 9 := by
    have : (⟨(enc s.size).toArray⟩ : ByteArray).size = (enc s.size).length := ba_size _
    omega
  have hP := fun w => PutInt_ok s.size w (by omega) (by omega)
  have HP := Lib.hid hP
  clear hP h2 hs
  obtain ⟨t, ht⟩ : ∃ t : ByteArray, t = ⟨(enc s.size).toArray⟩ := ⟨_, rfl⟩
  rw [← ht] at h3 HP ⊢
  clear ht
  go_enter Tryd.func19, Tryd.ntmps19
  go_wp2_with (go_at_call 12; refine (HP.out _).mono ?_; rintro e w' ⟨rfl, hB⟩)
  go_ret2
  exact ⟨rfl, hB⟩
end Go.Proofs.YtlnbipldbbdnmaaDoor
