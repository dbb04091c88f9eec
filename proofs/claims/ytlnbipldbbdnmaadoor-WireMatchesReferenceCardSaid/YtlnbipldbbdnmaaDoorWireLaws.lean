/- The laws of layer 1: NumberFrom. -/
import Derived.Test.YtlnbipldbbdnmaaDoorWireSane
namespace Go.Proofs.YtlnbipldbbdnmaaDoor
open Go.RowKit Putlog

def numTab : List Int := [64, 128, 8192, 16384, 1073741824, 36028797018963968, 576460752303423488, 2]
def numZ (c : Int) : Int := if 8 ≤ pickZ c 16 then -pickZ (pickZ c 4611686018427387904 / 8) (numTab.getD (pickZ c 8).toNat 0) else pickZ (pickZ c 4611686018427387904 / 8) (numTab.getD (pickZ c 8).toNat 0)
theorem numTab_bd : ∀ q, q < 8 → 1 ≤ numTab.getD q 0 ∧ numTab.getD q 0 ≤ 576460752303423488 := by decide
theorem numZ_bd (c : Int) : -4611686018427387903 ≤ numZ c ∧ numZ c ≤ 4611686018427387903 := by
  have h0 := pickZ_nonneg c (n := 8) (by omega)
  have h1 := pickZ_lt c (n := 8) (by omega)
  obtain ⟨h2, h3⟩ := numTab_bd (pickZ c 8).toNat (by omega)
  have h4 := pickZ_nonneg (pickZ c 4611686018427387904 / 8) h2
  have h5 := pickZ_lt (pickZ c 4611686018427387904 / 8) h2
  unfold numZ
  split <;> omega

set_option maxRecDepth 100000 in
set_option maxHeartbeats 1000000 in
theorem NumberFrom_any (c : Int) (w : World) (h0 : -9223372036854775808 ≤ c) (h2 : c ≤ 9223372036854775807) :
    Calls Tryd.prog 11 #[.int .i64 c] w fun e w' => e = .returned (.int .i64 (numZ c)) ∧ Below w.heap.size w w' := by
  obtain ⟨hq0, hq1⟩ := And.intro (pickZ_nonneg c (n := 8) (by omega)) (pickZ_lt c (n := 8) (by omega))
  obtain ⟨hu0, hu1⟩ := And.intro (pickZ_nonneg c (n := 16) (by omega)) (pickZ_lt c (n := 16) (by omega))
  obtain ⟨hv0, hv1⟩ := And.intro (pickZ_nonneg c (n := 4611686018427387904) (by omega)) (pickZ_lt c (n := 4611686018427387904) (by omega))
  have P8 := fun w => pick_any c 8 w h0 h2 (by omega) (by omega)
  have P16 := fun w => pick_any c 16 w h0 h2 (by omega) (by omega)
  have P62 := fun w => pick_any c 4611686018427387904 w h0 h2 (by omega) (by omega)
  have hnum : numZ c = if 8 ≤ pickZ c 16 then -pickZ (pickZ c 4611686018427387904 / 8) (numTab.getD (pickZ c 8).toNat 0) else pickZ (pickZ c 4611686018427387904 / 8) (numTab.getD (pickZ c 8).toNat 0) := rfl
  generalize pickZ c 8 = q at *
  generalize pickZ c 16 = u at *
  generalize pickZ c 4611686018427387904 = v at *
  obtain ⟨k, rfl⟩ := Int.eq_ofNat_of_zero_le hq0
  rw [Int.toNat_natCast] at hnum
  obtain ⟨hm0, hm1⟩ := numTab_bd k (by omega)
  have hcell : (w.alloc (.cells #[.int .i64 64, .int .i64 128, .int .i64 8192, .int .i64 16384, .int .i64 1073741824, .int .i64 36028797018963968, .int .i64 576460752303423488, .int .i64 2] 3)).cell? ⟨w.heap.size, k, none⟩ = some (.int .i64 (numTab.getD k 0)) := by
    rw [World.cell?_alloc_new]
    match k, hq1 with
    | 0, _ | 1, _ | 2, _ | 3, _ | 4, _ | 5, _ | 6, _ | 7, _ => rfl
  have PM := fun w => pick_any (v / 8) (numTab.getD k 0) w (by omega) (by omega) hm0 (by omega)
  have hp0 := pickZ_nonneg (v / 8) hm0
  have hp1 := pickZ_lt (v / 8) hm0
  generalize numTab.getD k 0 = m at *
  generalize pickZ (v / 8) m = x at *
  have HN := Lib.hid hnum
  have H8 := Lib.hid P8
  have H16 := Lib.hid P16
  have H62 := Lib.hid P62
  have HM := Lib.hid PM
  clear hnum P8 P16 P62 PM
  by_cases hu : 8 ≤ u
  · have HN2 : Hid (numZ c = -x) := by rw [HN.out, if_pos hu]; rfl
    clear HN
    go_enter Tryd.func11, Tryd.ntmps11
    go_wp2_with fail
    refine (H62.out _).mono ?_; rintro e w' ⟨rfl, rfl⟩
    go_wp2_with fail
    refine (H8.out _).mono ?_; rintro e w' ⟨rfl, rfl⟩
    go_wp2_with fail
    refine (HM.out _).mono ?_; rintro e w' ⟨rfl, rfl⟩
    go_wp2_with fail
    refine (H16.out _).mono ?_; rintro e w' ⟨rfl, rfl⟩
    go_wp2_with fail
    go_ret
    exact ⟨by rw [HN2.out]; rfl, (Below.refl _ _).alloc (Nat.le_refl _) _⟩
  · have HN2 : Hid (numZ c = x) := by rw [HN.out, if_neg hu]; rfl
    clear HN
    go_enter Tryd.func11, Tryd.ntmps11
    go_wp2_with fail
    refine (H62.out _).mono ?_; rintro e w' ⟨rfl, rfl⟩
    go_wp2_with fail
    refine (H8.out _).mono ?_; rintro e w' ⟨rfl, rfl⟩
    go_wp2_with fail
    refine (HM.out _).mono ?_; rintro e w' ⟨rfl, rfl⟩
    go_wp2_with fail
    refine (H16.out _).mono ?_; rintro e w' ⟨rfl, rfl⟩
    go_wp2_with fail
    go_ret
    exact ⟨by rw [HN2.out]; rfl, (Below.refl _ _).alloc (Nat.le_refl _) _⟩

/-- min(n, k), as the walk spells it. -/
theorem min_int (n k : Nat) : min (n : Int) (k : Int) = ((min n k : Nat) : Int) := by omega
theorem app_list (P E Q : ByteArray) : (P ++ E ++ Q).data.toList = P.data.toList ++ (E.data.toList ++ Q.data.toList) := by simp
theorem drop_app (P E Q : ByteArray) : (P ++ E ++ Q).data.toList.drop P.size = E.data.toList ++ Q.data.toList := by
  rw [app_list, List.drop_left' (by simp)]
theorem dec_app (n : Int) (h1 : -4611686018427387903 ≤ n) (h2 : n ≤ 4611686018427387903) (P E Q : ByteArray) (hE : (⟨(enc n).toArray⟩ : ByteArray) = E) :
    dec 0 0 ((P ++ E ++ Q).data.toList.drop P.size) = some (zig n, E.size) := by
  rw [drop_app, ← hE, ba_size]
  exact dec_leb (zig n) _ (zig_lt h1 h2)
theorem strEnd_app (R : ByteArray) (hR : R.size ≤ 65536) (P F Q : ByteArray) (hF : (⟨(enc R.size).toArray⟩ ++ R : ByteArray) = F) :
    strEnd (P ++ F ++ Q).data.toList P.size = .returned (.tuple #[.string R, .int .i64 ((P.size : Int) + (F.size : Int)), .int .i64 0]) := by
  have hb := enc_len_le (n := R.size) (by omega) (by omega)
  have e0 : P ++ F ++ Q = P ++ ⟨(enc R.size).toArray⟩ ++ (R ++ Q) := by rw [← hF]; simp [ByteArray.append_assoc]
  have e1 := dec_app R.size (by omega) (by omega) P ⟨(enc R.size).toArray⟩ (R ++ Q) rfl
  have e2 : (P ++ F ++ Q).data.toList.drop (P.size + (enc R.size).length) = R.data.toList ++ Q.data.toList := by
    rw [e0, app_list, ← List.drop_drop, List.drop_left' (by simp), List.drop_left' (by simp)]; simp
  have e3 : F.size = (enc R.size).length + R.size := by rw [← hF, ByteArray.size_append, ba_size]
  unfold strEnd
  rw [← e0] at e1
  rw [e1]
  simp only [zag_zig, ba_size]
  rw [if_neg, e2]
  · simp only [Int.toNat_natCast]
    rw [List.take_left' (by simp)]
    rw [e3]
    congr 4
    simp; omega
  · have : (P ++ F ++ Q).data.toList.length = P.size + F.size + Q.size := by simp; omega
    rw [this]
    omega
theorem belowStep {a b c : World} (h : Below a.heap.size a b) (k : Below b.heap.size b c) : Below a.heap.size a c := h.trans (k.mono h.size)
/-- No proper beginning of an encoding is accepted. -/
theorem dec_short (z pk : Nat) (hz : z ≤ 9223372036854775806) (h : pk < (leb z).length) : dec 0 0 ((leb z).take pk) = none := by
  cases hd : dec 0 0 ((leb z).take pk) with
  | none => rfl
  | some x =>
    obtain ⟨y, k⟩ := x
    have hle := dec_le hd
    obtain ⟨hy, hk, ht⟩ := dec_some hd
    rw [List.length_take] at hle
    rw [List.take_take, Nat.min_eq_left (by omega)] at ht
    have e : leb z = leb y ++ (leb z).drop k := by conv => lhs; rw [← List.take_append_drop k (leb z), ht]
    have h1 := dec_leb z [] hz
    rw [List.append_nil, e, dec_leb y _ hy] at h1
    simp only [Option.some.injEq, Prod.mk.injEq] at h1
    have h2 := h1.2
    rw [← e] at h2
    omega
/-- The encodings of different integers are no beginnings of each other. -/
theorem leb_prefix {y z : Nat} (hy : y ≤ 9223372036854775806) (hz : z ≤ 9223372036854775806) (h : (leb z).take (leb y).length = leb y) : y = z := by
  have e : leb z = leb y ++ (leb z).drop (leb y).length := by conv => lhs; rw [← List.take_append_drop (leb y).length (leb z), h]
  have h1 := dec_leb z [] hz
  rw [List.append_nil, e, dec_leb y _ hy] at h1
  simp only [Option.some.injEq, Prod.mk.injEq] at h1
  exact h1.1
theorem zig_inj {a b : Int} (h : zig a = zig b) : a = b := by rw [← zag_zig a, h, zag_zig]
theorem extract_zero (s : ByteArray) (n : Nat) : (s.extract 0 n).data.toList = s.data.toList.take n := by
  have := extract_list s 0 n
  rw [Nat.zero_add] at this
  rw [this]; simp
theorem Int_short (n : Int) (h1 : -4611686018427387903 ≤ n) (h2 : n ≤ 4611686018427387903) (pk : Nat) (E : ByteArray) (hE : (⟨(enc n).toArray⟩ : ByteArray) = E) (hp : pk < E.size) (w : World) :
    Calls Tryd.prog 15 #[.string (E.extract 0 pk), .int .i64 0] w fun e w' => e = .returned (.tuple #[.int .i64 0, .int .i64 0, .int .i64 10]) ∧ w = w' := by
  have hb := enc_len_le h1 h2
  have hs : E.size = (enc n).length := by rw [← hE, ba_size]
  refine Int_none (E.extract 0 pk) 0 w (by simp; omega) (Nat.zero_le _) ?_
  rw [List.drop_zero, extract_zero, ← hE]
  exact dec_short _ _ (zig_lt h1 h2) (by unfold enc at hs; omega)
theorem String_short (R : ByteArray) (hR : R.size ≤ 65536) (pk : Nat) (F : ByteArray) (hF : (⟨(enc R.size).toArray⟩ ++ R : ByteArray) = F) (hp : pk < F.size) (w : World) :
    Calls Tryd.prog 17 #[.string (F.extract 0 pk), .int .i64 0] w fun e w' => e = strNo 10 ∧ Below w.heap.size w w' := by
  have hb := enc_len_le (n := R.size) (by omega) (by omega)
  have hs : F.size = (enc R.size).length + R.size := by rw [← hF, ByteArray.size_append, ba_size]
  have hl : F.data.toList = leb (zig R.size) ++ R.data.toList := by rw [← hF]; simp [enc]
  have hex := extract_zero F pk
  refine (String_at (F.extract 0 pk) 0 w (by simp; omega) (Nat.zero_le _)).mono fun e w' ⟨he, hB⟩ => ⟨?_, hB⟩
  rw [he]
  unfold strEnd
  rw [List.drop_zero, hex, hl]
  by_cases h : pk < (leb (zig R.size)).length
  · rw [List.take_append_of_le_length (by omega), dec_short _ _ (zig_lt (by omega) (by omega)) h]
  · rw [List.take_append, List.take_of_length_le (by omega), dec_leb _ _ (zig_lt (by omega) (by omega))]
    simp only [zag_zig]
    rw [if_pos]
    have : (leb (zig ↑R.size)).length = (enc R.size).length := rfl
    simp
    omega
theorem numZ_nat (c : Int) : zig (numZ c) ≤ 9223372036854775806 := zig_lt (numZ_bd c).1 (numZ_bd c).2
end Go.Proofs.YtlnbipldbbdnmaaDoor
