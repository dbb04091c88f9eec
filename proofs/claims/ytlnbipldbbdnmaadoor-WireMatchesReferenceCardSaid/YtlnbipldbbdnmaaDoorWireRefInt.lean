/- The contracts of the reference's zigzag and PutInt. -/
import Derived.Maps.AppendAt
import Derived.RangeFuncBox
import Derived.Test.YtlnbipldbbdnmaaDoorWireLaws
namespace Go.Proofs.YtlnbipldbbdnmaaDoor
open Go.RowKit Putlog

theorem infoU8 : (Tryd.prog.info? 5).map (fun i => (i.zero, i.size, i.bytes)) = some (some (.int .u8 0), 1, 1) := by kernel_rfl

theorem own_ge {w : World} {base : Nat} {e : TypeId} {size : Nat} {v : Value} {n : Nat} {xs : List Value} (h : w.ownsRow base e size v n xs) : ∀ k, v.ownBlock = some k → base ≤ k := by
  intro k hk
  rcases h.2 with ⟨rfl, _⟩ | ⟨g, cap, cur, rfl, hg, _⟩
  · simp [Value.ownBlock] at hk
  · simp [Value.ownBlock] at hk
    omega
/-- What a row of bytes of the call's own reads as, as a string. -/
theorem conv_own {w : World} {base g cap : Nat} {l : List Int} (h : w.ownsRow base 5 1 (.slice (some ⟨g, 0, none⟩) l.length cap) l.length (l.map (Value.int .u8))) :
    (convert 38 9 (.slice (some ⟨g, 0, none⟩) l.length cap)).run Tryd.prog w = .ok (.string (strOfNums l)) w :=
  run_convert_bytes_arg (P := Tryd.prog) w 38 5 Tryd.underlying38 Tryd.underlying5 g 0 l.length cap l rfl (fun i hi => by
    rw [Nat.zero_add, h.cellAt i (by omega), List.getElem?_map, List.getElem?_eq_getElem hi, List.getD_eq_getElem?_getD, List.getElem?_eq_getElem hi]; rfl) 9 Tryd.underlying9
set_option maxHeartbeats 400000 in
theorem zigzag_any (n : Int) (w : World) (h0 : -4611686018427387903 ≤ n) (h2 : n ≤ 4611686018427387903) :
    Calls Tryd.prog 25 #[.int .i64 n] w fun e w' => e = .returned (.int .u64 (zig n : Nat)) ∧ w = w' := by
  by_cases h1 : n < 0
  · go_enter Tryd.func25, Tryd.ntmps25
    go_wp2
    go_ret
    exact ⟨ret_int (show -n * 2 - 1 = _ by unfold zig; rw [if_pos h1]; omega), rfl⟩
  · go_enter Tryd.func25, Tryd.ntmps25
    go_wp2
    go_ret
    exact ⟨ret_int (show n * 2 = _ by unfold zig; rw [if_neg (by omega)]; omega), rfl⟩

set_option maxHeartbeats 400000 in
theorem RefPutInt_no (c : Int) (w : World) (h : c < -4611686018427387903 ∨ 4611686018427387903 < c) :
    Calls Tryd.prog 13 #[.int .i64 c] w fun e w' => e = .returned (.tuple #[.string ⟨#[]⟩, .int .i64 10]) ∧ w = w' := by
  rcases h with h | h
  all_goals
    go_enter Tryd.func13, Tryd.ntmps13
    go_wp2
    go_ret2
    exact ⟨rfl, rfl⟩

set_option maxRecDepth 100000 in
set_option maxHeartbeats 2000000 in
theorem RefPutInt_walk (c : Int) (w : World) (hc1 : -4611686018427387903 ≤ c) (hc2 : c ≤ 4611686018427387903) :
    Calls Tryd.prog 13 #[.int .i64 c] w fun e w' => e = .returned (.tuple #[.string (strOfNums (lebI (zig c))), .int .i64 0]) ∧ Below w.heap.size w w' := by
  have hd1 : decide (c < -4611686018427387903) = false := by simpa using hc1
  have hd2 : decide (4611686018427387903 < c) = false := by simpa using hc2
  have hzl := zig_lt hc1 hc2
  have hlen := leb_len_le 8 (zig c) (by omega)
  rw [← lebI_len] at hlen
  obtain ⟨i0, hi, hz0, hz1, hz2⟩ := info_parts infoU8
  have HI := Lib.hid hi
  have HZ := Lib.hid (And.intro hz0 (And.intro hz1 hz2))
  clear hi hz0 hz1 hz2
  have hZ : ∀ w, Calls Tryd.prog 25 #[.int .i64 c] w fun e w' => e = .returned (.int .u64 (zig c : Nat)) ∧ w = w' := fun w => zigzag_any c w hc1 hc2
  generalize zig c = z at *
  have HZZ := Lib.hid hZ
  have HLEN := Lib.hid hlen
  have hzl' : (z : Int) ≤ 9223372036854775806 := by omega
  clear hZ hlen hzl
  go_enter Tryd.func13, Tryd.ntmps13
  go_wp2_with fail
  refine (HZZ.out _).mono ?_; rintro e w1 ⟨rfl, rfl⟩
  go_wp2_with fail
  go_loopw [4, 5] (fun p v wr => ∃ (pre : List Int) (r : Nat), p = .int .u64 (r : Int) ∧ lebI z = pre ++ lebI r ∧ (r : Int) ≤ 9223372036854775806 ∧ wr.ownsRow w.heap.size 5 1 v pre.length (pre.map (Value.int .u8)) ∧ Below w.heap.size w wr)
    (fun p _ _ => (intOf p).toNat)
  case atStart => exact ⟨[], z, rfl, rfl, hzl', World.ownsRow_nil _ _ _ _, Below.refl _ _⟩
  case round =>
    obtain ⟨pre, r, rfl, hx, hr, hown, hB⟩ := hrel
    have hpre : pre.length < 9 := by
      have := lebI_len r; have := leb_len_pos r; have h := HLEN.out; rw [hx, List.length_append] at h; omega
    by_cases hlt0 : r < 128
    · rw [lebI_lt hlt0] at hx
      have HX := Lib.hid hx
      have hlt : (r : Int) < 128 := by omega
      have hr0 : 0 ≤ (r : Int) := by omega
      have hwb := hB.size
      clear hlt0 hx
      go_wp2_with (at_builtin; go_must (refine wpList_append_own _ rfl _ _ 38 rfl w.heap.size 5 i0 (.int .u8 0) 1 1 Tryd.underlying38 HI.out HZ.out.1 HZ.out.2.1 HZ.out.2.2 rfl (by decide) _ _ _ rfl (hown.alloc _) ⟨wr.heap.size, 0, none⟩ 1 1 [.int .u8 (r : Int)] rfl rfl (cell_one_new _ _ _) (by simp [Value.oneCell']) (by unfold maxLen; omega) (by omega) (by simp; omega) ?_); intro v' w1 hown' hgrow _; obtain ⟨g, cap, rfl⟩ := ownsRow_succ hown'; have hconv := conv_own (l := pre ++ [(r : Int)]) (cap := cap) (g := g) (base := w.heap.size) (w := w1) (by simpa using hown'); rw [List.length_append, List.length_singleton, ← HX.out] at hconv)
      go_ret2
      exact ⟨rfl, (hB.alloc hB.size _).grown hgrow (by simp; omega) (own_ge hown)⟩
    · rw [lebI_ge (z := r) (by omega)] at hx
      have HX := Lib.hid hx
      have hlt : 128 ≤ (r : Int) := by omega
      have hr0 : 0 ≤ (r : Int) := by omega
      have hwb := hB.size
      clear hlt0 hx
      go_wp2_with (at_builtin; go_must (refine wpList_append_own _ rfl _ _ 38 rfl w.heap.size 5 i0 (.int .u8 0) 1 1 Tryd.underlying38 HI.out HZ.out.1 HZ.out.2.1 HZ.out.2.2 rfl (by decide) _ _ _ rfl (hown.alloc _) ⟨wr.heap.size, 0, none⟩ 1 1 [.int .u8 ((r : Int) % 128 + 128)] rfl rfl (cell_one_new _ _ _) (by simp [Value.oneCell']) (by unfold maxLen; omega) (by omega) (by simp; omega) ?_); intro v' w1 hown' hgrow _)
      go_roundw
      case rel => exact ⟨pre ++ [(r : Int) % 128 + 128], r / 128, by go_num, by rw [HX.out]; simp, by omega, by simpa using hown', (hB.alloc hB.size _).grown hgrow (by simp; omega) (own_ge hown)⟩
      case measure => simp [intOf]; omega
theorem RefPutInt_ok (c : Int) (w : World) (hc1 : -4611686018427387903 ≤ c) (hc2 : c ≤ 4611686018427387903) :
    Calls Tryd.prog 13 #[.int .i64 c] w fun e W' => e = .returned (.tuple #[.string ⟨(enc c).toArray⟩, .int .i64 0]) ∧ Below w.heap.size w W' := by
  have := RefPutInt_walk c w hc1 hc2
  rw [strOfNums_lebI] at this
  exact this
end Go.Proofs.YtlnbipldbbdnmaaDoor
