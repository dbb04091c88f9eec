/- The contract of the laws' sane: its fixed examples. -/
import Derived.Test.YtlnbipldbbdnmaaDoorWireSum
namespace Go.Proofs.YtlnbipldbbdnmaaDoor
open Go.RowKit Putlog

theorem TabAt.size {w : World} (h : TabAt w) : 0 < w.heap.size := by
  have := h 0 (by omega)
  unfold World.cell? at this
  rcases Nat.lt_or_ge 0 w.heap.size with h | h
  · exact h
  · rw [Array.getElem?_eq_none (by simpa using h)] at this; cases this
theorem TabAt.below {w w' : World} (h : TabAt w) {B : Nat} (hB : Below B w w') (hlt : 0 < B) : TabAt w' :=
  fun i hi => (hB.cell (p := ⟨0, i, none⟩) hlt).trans (h i hi)

theorem leb_two {z : Nat} (h : 128 ≤ z) (h2 : z < 16384) : leb z = [UInt8.ofNat (z % 128 + 128), UInt8.ofNat (z / 128)] := by
  rw [leb_ge h, leb_lt (by omega)]
theorem sane1 (w : World) : Calls Tryd.prog 12 #[.int .i64 (-64)] w fun e w' => e = .returned (.tuple #[.string ⟨#[127]⟩, .int .i64 0]) ∧ Below w.heap.size w w' := by
  have h := PutInt_ok (-64) w (by omega) (by omega)
  rw [show enc (-64) = [127] by unfold enc; rw [leb_lt (by decide)]; rfl] at h
  exact h
theorem sane2 (w : World) : Calls Tryd.prog 12 #[.int .i64 64] w fun e w' => e = .returned (.tuple #[.string ⟨#[128, 1]⟩, .int .i64 0]) ∧ Below w.heap.size w w' := by
  have h := PutInt_ok 64 w (by omega) (by omega)
  rw [show enc 64 = [128, 1] by unfold enc; rw [leb_two (by decide) (by decide)]; rfl] at h
  exact h
theorem sane3 (w : World) : Calls Tryd.prog 15 #[.string ⟨#[97, 172, 2, 98]⟩, .int .i64 1] w fun e w' => e = .returned (.tuple #[.int .i64 150, .int .i64 3, .int .i64 0]) ∧ w = w' :=
  Int_some ⟨#[97, 172, 2, 98]⟩ 1 300 2 w (by decide) (by decide) (by decide)
theorem sane4 (w : World) : Calls Tryd.prog 15 #[.string ⟨#[128, 0]⟩, .int .i64 0] w fun e w' => e = .returned (.tuple #[.int .i64 0, .int .i64 0, .int .i64 10]) ∧ w = w' :=
  Int_none ⟨#[128, 0]⟩ 0 w (by decide) (by decide) (by decide)
theorem sane5 (w : World) : Calls Tryd.prog 19 #[.string ⟨#[97, 98]⟩] w fun e w' => e = .returned (.tuple #[.string ⟨#[4, 97, 98]⟩, .int .i64 0]) ∧ Below w.heap.size w w' := by
  have h := PutString_ok ⟨#[97, 98]⟩ w (by decide)
  have e : (⟨(enc ((⟨#[97, 98]⟩ : ByteArray).size)).toArray⟩ ++ ⟨#[97, 98]⟩ : ByteArray) = ⟨#[4, 97, 98]⟩ := by
    rw [show enc ((⟨#[97, 98]⟩ : ByteArray).size) = [4] by unfold enc; rw [leb_lt (by decide)]; rfl]; rfl
  rw [e] at h
  exact h
theorem sane6 (w : World) : Calls Tryd.prog 17 #[.string ⟨#[4, 97, 98, 99]⟩, .int .i64 0] w fun e w' => e = .returned (.tuple #[.string ⟨#[97, 98]⟩, .int .i64 3, .int .i64 0]) ∧ Below w.heap.size w w' :=
  String_at ⟨#[4, 97, 98, 99]⟩ 0 w (by decide) (by decide)
theorem sane7 (w : World) : Calls Tryd.prog 17 #[.string ⟨#[4, 97]⟩, .int .i64 0] w fun e w' => e = .returned (.tuple #[.string ⟨#[]⟩, .int .i64 0, .int .i64 10]) ∧ Below w.heap.size w w' :=
  String_at ⟨#[4, 97]⟩ 0 w (by decide) (by decide)
theorem sane8 (w : World) : Calls Tryd.prog 12 #[.int .i64 4611686018427387904] w fun e w' => e = .returned (.tuple #[.string ⟨#[]⟩, .int .i64 10]) ∧ w = w' :=
  PutInt_no _ w (by omega)
theorem sane9 (w : World) : Calls Tryd.prog 15 #[.string ⟨#[]⟩, .int .i64 1] w fun e w' => e = .returned (.tuple #[.int .i64 0, .int .i64 0, .int .i64 2]) ∧ w = w' :=
  Int_out _ _ w (by right; decide)
theorem sane10 (w : World) (hT : TabAt w) : Calls Tryd.prog 21 #[.string ⟨#[49, 50, 51, 52, 53, 54, 55, 56, 57]⟩] w fun e w' => e = .returned (.int .i64 3808858755) ∧ w = w' := by
  have h := Sum_any ⟨#[49, 50, 51, 52, 53, 54, 55, 56, 57]⟩ w (by decide) hT
  rw [show crcSum (⟨#[49, 50, 51, 52, 53, 54, 55, 56, 57]⟩ : ByteArray).data.toList = 3808858755 by decide +kernel] at h
  exact h

set_option maxRecDepth 100000 in
set_option maxHeartbeats 4000000 in
theorem sane_any (w : World) (hT : TabAt w) : Calls Tryd.prog 10 #[] w fun e w' => e = .returned (.bool true) ∧ Below w.heap.size w w' := by
  have hz := hT.size
  have HT := Lib.hid hT
  clear hT
  go_enter Tryd.func10, Tryd.ntmps10
  go_wp2_with fail
  refine (sane1 _).mono ?_; rintro e w1 ⟨rfl, hB1⟩
  go_wp2_with fail
  refine (sane2 _).mono ?_; rintro e w2 ⟨rfl, hB2⟩
  go_wp2_with fail
  refine (sane3 _).mono ?_; rintro e w' ⟨rfl, rfl⟩
  go_wp2_with fail
  refine (sane4 _).mono ?_; rintro e w' ⟨rfl, rfl⟩
  go_wp2_with fail
  refine (sane5 _).mono ?_; rintro e w3 ⟨rfl, hB3⟩
  go_wp2_with fail
  refine (sane6 _).mono ?_; rintro e w4 ⟨rfl, hB4⟩
  go_wp2_with fail
  refine (sane7 _).mono ?_; rintro e w5 ⟨rfl, hB5⟩
  go_wp2_with fail
  refine (sane8 _).mono ?_; rintro e w' ⟨rfl, rfl⟩
  go_wp2_with fail
  refine (sane9 _).mono ?_; rintro e w' ⟨rfl, rfl⟩
  go_wp2_with fail
  have hB : Below w.heap.size w w5 := hB1.trans ((hB2.mono hB1.size).trans ((hB3.mono (Nat.le_trans hB1.size hB2.size)).trans ((hB4.mono (by have := hB1.size; have := hB2.size; have := hB3.size; omega)).trans (hB5.mono (by have := hB1.size; have := hB2.size; have := hB3.size; have := hB4.size; omega)))))
  refine (sane10 _ (HT.out.below hB hz)).mono ?_; rintro e w' ⟨rfl, rfl⟩
  go_wp2_with fail
  go_ret
  exact ⟨rfl, hB⟩
end Go.Proofs.YtlnbipldbbdnmaaDoor
