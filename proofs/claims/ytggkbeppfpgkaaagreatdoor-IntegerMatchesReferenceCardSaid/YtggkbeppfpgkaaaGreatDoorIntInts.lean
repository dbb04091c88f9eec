/- The contracts of FromInt and ToInt. -/
import Derived.Test.YtggkbeppfpgkaaaGreatDoorIntSane
import Derived.Test.YtggkbeppfpgkaaaGreatDoorIntConv
import Derived.Lib.AppendIntMem
import Derived.WalkSmall
namespace Go.Proofs.YtggkbeppfpgkaaaGreatDoor
open Go.RowKit Putlog

/-- The library's variables that the conversions read. -/
structure Tabs (W : World) : Prop where
  tab : Lib.TabIs Tryz.prog W "internal/strconv.uint64pow10" .u64 Lib.pow10Tab
  er : ∃ tp p, W.var? Tryz.prog "strconv.ErrRange" = some #[.iface tp p]
  size : 3 ≤ W.heap.size
theorem gPow : Tryz.prog.globalNamed "internal/strconv.uint64pow10" = some 2 := by kernel_rfl
theorem gErr : Tryz.prog.globalNamed "strconv.ErrRange" = some 1 := by kernel_rfl
theorem Tabs.via {w w' : World} (hB : Below w.heap.size w w') (h : Tabs w) : Tabs w' := by
  have h3 := h.size
  obtain ⟨tp, p, hv⟩ := h.er
  exact ⟨var?_below hB gPow (show 2 < _ by omega) h.tab, ⟨tp, p, var?_below hB gErr (show 1 < _ by omega) hv⟩, by have := hB.size; omega⟩
set_option maxRecDepth 100000 in
set_option maxHeartbeats 2000000 in
theorem from_any (n : Int) (h0 : -9223372036854775808 ≤ n) (h1 : n ≤ 9223372036854775807) (w : World) (hT : Tabs w) :
    Calls Tryz.prog 25 #[.int .i64 n] w fun e w' => e = .returned (.string (intB n)) ∧ Below w.heap.size w w' := by
  have h := Tryz.strconv_Itoa n h0 h1 w hT.tab
  rw [itoa_eq] at h
  have HI : Hid (Calls Tryz.prog 53 #[.int .i64 n] w fun e w' => e = .returned (.string (intB n)) ∧ Below w.heap.size w w') := h.mono fun e w' ⟨h1, k, os, h2⟩ => ⟨h1, by rw [h2]; exact Lib.below_grow _ _ (Nat.le_refl _) _ _⟩
  clear h h0 h1 hT
  go_enter Tryz.func25, Tryz.ntmps25
  go_wp2_with fail
  refine HI.out.mono ?_
  rintro e w1 ⟨rfl, hB⟩
  go_wp2_with fail
  go_ret
  exact ⟨rfl, hB⟩
theorem bytesWorld_belowC (w : World) (e : TypeId) (s : ByteArray) : Below w.heap.size w (Lib.bytesWorld w e s) :=
  ⟨rfl, rfl, rfl, by rw [Lib.bytesWorld_size]; omega, fun k hk => Lib.bytesWorld_at_old w e s k hk⟩
def InInt (z : Int) : Prop := -9223372036854775808 ≤ z ∧ z ≤ 9223372036854775807
set_option maxRecDepth 100000 in
set_option maxHeartbeats 2000000 in
theorem to_ok (z : Int) (hz : Fits z) (hi : InInt z) (w : World) :
    Calls Tryz.prog 19 #[.string (intB z)] w fun e w' => e = .returned (.tuple #[.int .i64 z, .int .i64 0]) ∧ Below w.heap.size w w' := by
  have hsz := intT_size hz (by decide)
  have HV := Lib.hid (validB z (fits250 hz))
  rw [decide_eq_true hz] at HV
  have ha : Lib.atoiAll (intB z).data.toList = .ok z := by rw [intB_list, atoi_eq, if_pos (show _ ∧ _ from hi)]
  have HA : Hid (∀ W, Calls Tryz.prog 50 #[.string (intB z)] W fun e w' => e = .returned (.tuple #[.int .i64 z, .nilIface]) ∧ Below W.heap.size W w') := fun W =>
    (Tryz.strconv_Atoi_ok (intB z) (by omega) z ha W).mono fun e w' ⟨h1, h2⟩ => ⟨h1, by
      rcases h2 with h2 | ⟨t, h2⟩
      · rw [h2]; exact Below.refl _ _
      · rw [h2]; exact bytesWorld_belowC _ _ _⟩
  generalize intB z = s at *
  clear hz hi hsz ha
  go_enter Tryz.func19, Tryz.ntmps19
  go_wp2_with fail
  refine (HV.out w).mono ?_
  rintro e w1 ⟨rfl, rfl⟩
  go_wp2_with fail
  refine (HA.out w1).mono ?_
  rintro e w2 ⟨rfl, hB⟩
  go_wp2_with fail
  go_ret2
  exact ⟨rfl, hB⟩
set_option maxRecDepth 100000 in
set_option maxHeartbeats 2000000 in
theorem to_out (z : Int) (hz : Fits z) (hi : ¬ InInt z) (w : World) (hT : Tabs w) :
    Calls Tryz.prog 19 #[.string (intB z)] w fun e w' => e = .returned (.tuple #[.int .i64 0, .int .i64 30]) ∧ Below w.heap.size w w' := by
  have hsz := intT_size hz (by decide)
  have HV := Lib.hid (validB z (fits250 hz))
  rw [decide_eq_true hz] at HV
  have ha : Lib.atoiAll (intB z).data.toList = .range := by rw [intB_list, atoi_eq, if_neg (show ¬ (_ ∧ _) from hi)]
  obtain ⟨tp, p, hv⟩ := hT.er
  have HA : Hid (Calls Tryz.prog 50 #[.string (intB z)] w fun e w' => (∃ N k, e = .returned (.tuple #[.int .i64 k, .iface 91 (.pointer (some ⟨N, 0, none⟩))])) ∧ Below w.heap.size w w') :=
    (Tryz.strconv_Atoi_range_var (intB z) (by omega) ha tp p w hv).mono fun e w' ⟨N, h1, _, _, h2⟩ => ⟨⟨N, _, h1⟩, h2⟩
  generalize intB z = s at *
  clear hz hi hsz ha hT hv
  go_enter Tryz.func19, Tryz.ntmps19
  go_wp2_with fail
  refine (HV.out w).mono ?_
  rintro e w1 ⟨rfl, rfl⟩
  go_wp2_with fail
  refine HA.out.mono ?_
  rintro e w2 ⟨⟨N, k, rfl⟩, hB⟩
  go_wp2_with fail
  go_ret2
  exact ⟨rfl, hB⟩
set_option maxRecDepth 100000 in
set_option maxHeartbeats 2000000 in
theorem to_no (s : ByteArray) (hs : (s.size : Int) ≤ 9223372036854775807) (hv : validT s.data.toList = false) (w : World) :
    Calls Tryz.prog 19 #[.string s] w fun e w' => e = .returned (.tuple #[.int .i64 0, .int .i64 30]) ∧ Below w.heap.size w w' := by
  have hV := valid_any s hs
  rw [hv] at hV
  have HV := Lib.hid hV
  clear hV hv
  go_enter Tryz.func19, Tryz.ntmps19
  go_wp2_with fail
  refine (HV.out w).mono ?_
  rintro e w1 ⟨rfl, rfl⟩
  go_wp2_with fail
  go_ret2
  exact ⟨rfl, Below.refl _ _⟩
end Go.Proofs.YtggkbeppfpgkaaaGreatDoor
