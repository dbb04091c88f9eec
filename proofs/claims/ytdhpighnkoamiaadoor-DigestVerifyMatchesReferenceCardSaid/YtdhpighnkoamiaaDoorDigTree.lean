/- The contracts of split, digests, cut and Root. -/
import Derived.Lib.ItoaNum
import Derived.Deep.RegionHeld3
import Derived.RegionTactic
import Derived.Deep.QuietTactic
import Derived.BigQuiet
import Derived.Test.YtdhpighnkoamiaaDoorShelf
import Derived.Test.YtdhpighnkoamiaaDoorDigLeaf
namespace Go.Proofs.YtdhpighnkoamiaaDoor
open Go.RowKit Putlog

theorem bitLen_log {x : Nat} (h0 : x ≠ 0) (h : x < 2 ^ 63) : 1 ≤ Lib.bitLen x ∧ Lib.bitLen x ≤ 63 ∧ 2 ^ (Lib.bitLen x - 1) = 2 ^ Nat.log2 x := by
  obtain ⟨h1, h2, h3⟩ := Lib.bitLenAux_bounds 64 x (by omega) h0
  have e : Nat.log2 x = Lib.bitLen x - 1 := (Nat.log2_eq_iff h0).2 ⟨h2, by rw [show Lib.bitLen x - 1 + 1 = Lib.bitLenAux 64 x by unfold Lib.bitLen at *; omega]; exact h3⟩
  refine ⟨h1, ?_, by rw [e]⟩
  rcases Nat.lt_or_ge 63 (Lib.bitLen x) with h4 | h4
  · have h5 : 2 ^ 63 ≤ 2 ^ (Lib.bitLen x - 1) := Nat.pow_le_pow_right (by omega) (by omega)
    have h6 : 2 ^ (Lib.bitLen x - 1) ≤ x := h2
    omega
  · exact h4
set_option maxHeartbeats 400000 in
theorem split_any (n : Nat) (w : World) (h2 : 2 ≤ n) (h : (n : Int) ≤ 9223372036854775807) :
    Calls Tryd.prog 47 #[.int .i64 n] w fun e w' => e = .returned (.int .i64 (half n : Nat)) ∧ w = w' := by
  obtain ⟨l1, l2, l3⟩ := bitLen_log (x := n - 1) (by omega) (by omega)
  have hb : ((half n : Nat) : Int) ≤ 9223372036854775807 := by have := half_le h2; omega
  have HL : Hid (∀ w, Calls Tryd.prog 58 #[.int .u64 ((n : Int) - 1)] w fun e w' => e = .returned (.int .i64 (Lib.bitLen (n - 1))) ∧ w' = w) := Lib.hid fun w => by
    have := Tryd.bits_Len ((n : Int) - 1) w (by omega) (by omega)
    rwa [show ((n : Int) - 1).toNat = n - 1 by omega] at this
  have l4 : ((Lib.bitLen (n - 1) : Nat) : Int) ≤ 63 := by omega
  have l5 : (2 : Int) ^ (Lib.bitLen (n - 1) - 1) = (half n : Nat) := by unfold half; rw [← l3]; simp
  have hn2 : (2 : Int) ≤ n := by omega
  generalize half n = r at *
  generalize Lib.bitLen (n - 1) = L at *
  have H5 := Lib.hid l5
  clear l3 l5 l2
  go_enter Tryd.func47, Tryd.ntmps47
  go_wp2_with fail
  refine (HL.out _).mono ?_; rintro e w' ⟨rfl, rfl⟩
  have l6 := H5.out
  go_wp2_with fail
  go_ret
  exact ⟨rfl, rfl⟩

/-- Are the n strings from place o on digests? -/
def digB (ps : Nat → ByteArray) (o : Nat) : Nat → Bool
  | 0 => true
  | n + 1 => digB ps o n && ((ps (o + n)).size == 32)
theorem digB_get {ps : Nat → ByteArray} {o : Nat} : ∀ {n : Nat}, digB ps o n = true → ∀ j, j < n → (ps (o + j)).size = 32
  | 0, _, j, hj => by omega
  | n + 1, h, j, hj => by
    simp only [digB, Bool.and_eq_true, beq_iff_eq] at h
    rcases Nat.lt_or_ge j n with h1 | h1
    · exact digB_get h.1 j h1
    · obtain rfl : j = n := by omega
      exact h.2
theorem digB_bad {ps : Nat → ByteArray} {o j : Nat} (hs : (ps (o + j)).size ≠ 32) : ∀ {n : Nat}, j < n → digB ps o n = false
  | 0, hj => by omega
  | n + 1, hj => by
    simp only [digB]
    rcases Nat.lt_or_ge j n with h1 | h1
    · rw [digB_bad hs h1]; rfl
    · obtain rfl : j = n := by omega
      simp [hs]
set_option maxHeartbeats 400000 in
theorem digests_zero (a : Option Addr) (c : Nat) (w : World) :
    Calls Tryd.prog 48 #[.slice a 0 c] w fun e w' => e = .returned (.bool true) ∧ w = w' := by
  go_enter Tryd.func48, Tryd.ntmps48
  go_wp2_with fail
  go_loop [7] (fun i => i = .int .i64 0) (fun _ => 0)
  case atStart => rfl
  case round =>
    obtain rfl := hrel
    go_wp2_with fail
    go_ret
    exact ⟨rfl, rfl⟩
set_option maxHeartbeats 400000 in
theorem digests_some (ps : Nat → ByteArray) (b o n c : Nat) (w : World) (hn : (n : Int) ≤ 281474976710656) (hc : ∀ j, j < n → w.cell? ⟨b, o + j, none⟩ = some (.string (ps (o + j)))) :
    Calls Tryd.prog 48 #[.slice (some ⟨b, o, none⟩) n c] w fun e w' => e = .returned (.bool (digB ps o n)) ∧ w = w' := by
  have HC := Lib.hid hc
  clear hc
  go_enter Tryd.func48, Tryd.ntmps48
  go_wp2_with fail
  go_loop [4, 7] (fun _ i => ∃ k : Nat, k ≤ n ∧ i = .int .i64 k ∧ digB ps o k = true) (fun _ i => n - (intOf i).toNat)
  case atStart => exact ⟨0, by omega, rfl, rfl⟩
  case round =>
    obtain ⟨k, hk, rfl, hd⟩ := hrel
    have HD := Lib.hid hd
    clear hd
    by_cases hlt : k < n
    · have hcell := HC.out k hlt
      by_cases h32 : (ps (o + k)).size = 32
      · have h33 : (((ps (o + k)).size : Int) != 32) = false := by simp [h32]
        have HN : Hid (digB ps o (k + 1) = true) := by
          show digB ps o (k + 1) = true
          simp [digB, HD.out, h32]
        clear h32
        go_wp2_with fail
        go_round
        case rel => exact ⟨k + 1, by omega, by go_num, HN.out⟩
        case measure => simp [intOf]; omega
      · have h33 : (((ps (o + k)).size : Int) != 32) = true := by simp; omega
        have HB := Lib.hid (digB_bad h32 hlt)
        clear h32
        go_wp2_with fail
        go_ret
        exact ⟨by rw [HB.out]; rfl, rfl⟩
    · obtain rfl : k = n := by omega
      go_wp2_with fail
      go_ret
      exact ⟨by rw [HD.out]; rfl, rfl⟩
set_option maxHeartbeats 400000 in
theorem cut_any (ps : Nat → ByteArray) (b o n c : Nat) (w : World) (hn : ((n + 1 : Nat) : Int) ≤ 281474976710656) (hcap : n + 1 ≤ c) (hc : w.cell? ⟨b, o + n, none⟩ = some (.string (ps (o + n)))) :
    Calls Tryd.prog 59 #[.slice (some ⟨b, o, none⟩) (n + 1) c] w fun e w' => e = .returned (.tuple #[.slice (some ⟨b, o, none⟩) n c, .string (ps (o + n))]) ∧ ∃ k, w' = w.drewN k := by
  go_enter Tryd.func59, Tryd.ntmps59
  go_wp2_with fail
  go_quiet (fail)
  go_wp2_with fail
  go_ret2
  exact ⟨rfl, _, rfl⟩

/-- The strings from place lo to hi of block b, and the table. -/
def Good (b : Nat) (ss : Nat → ByteArray) (lo hi : Nat) (w : World) : Prop := (∀ j, lo ≤ j → j < hi → w.cell? ⟨b, j, none⟩ = some (.string (ss j))) ∧ TabAt w
theorem Good.below {b lo hi : Nat} {ss : Nat → ByteArray} {w w' : World} (h : Good b ss lo hi w) (hB : Below w.heap.size w w') : Good b ss lo hi w' :=
  ⟨fun j h1 h2 => (hB.cell (p := ⟨b, j, none⟩) (lt_of_cell (h.1 j h1 h2))).trans (h.1 j h1 h2), h.2.below hB h.2.size⟩
theorem Good.drewN {b lo hi : Nat} {ss : Nat → ByteArray} {w : World} (h : Good b ss lo hi w) (n : Nat) : Good b ss lo hi (w.drewN n) := h

set_option maxHeartbeats 400000 in
theorem Root_zero (a : Option Addr) (c : Nat) (w : World) (hT : TabAt w) :
    Calls Tryd.prog 27 #[.slice a 0 c] w fun e w' => e = .returned (.string (shaB ByteArray.empty)) ∧ Below w.heap.size w w' := by
  have HS := Lib.hid (Sum_any ⟨#[]⟩ w (by decide) hT)
  clear hT
  go_enter Tryd.func27, Tryd.ntmps27
  go_wp2_with fail
  refine HS.out.mono ?_
  rintro e w' ⟨rfl, hB⟩
  go_wp2_with fail
  go_ret
  exact ⟨rfl, hB⟩
set_option maxHeartbeats 400000 in
theorem Root_one (b o c : Nat) (s : ByteArray) (w : World) (hs : s.size ≤ 140737488355327) (hc : w.cell? ⟨b, o, none⟩ = some (.string s)) (hT : TabAt w) :
    Calls Tryd.prog 27 #[.slice (some ⟨b, o, none⟩) 1 c] w fun e w' => e = .returned (.string (leafB s)) ∧ Below w.heap.size w w' := by
  have HS := Lib.hid (Leaf_any s w (by omega) hT)
  clear hT
  go_enter Tryd.func27, Tryd.ntmps27
  go_wp2_with fail
  refine HS.out.mono ?_
  rintro e w' ⟨rfl, hB⟩
  go_wp2_with fail
  go_ret
  exact ⟨rfl, hB⟩

set_option maxRecDepth 100000 in
set_option maxHeartbeats 2000000 in
theorem Root_all (b lo hi : Nat) (ss : Nat → ByteArray) (hss : ∀ j, (ss j).size ≤ 140737488355327) (k : Nat) : ∀ (n o c : Nat) (w : World), n ≤ k → 1 ≤ n → (n : Int) ≤ 281474976710656 → lo ≤ o → o + n ≤ hi → n ≤ c → (c : Int) ≤ 9223372036854775807 → Good b ss lo hi w →
    Calls Tryd.prog 27 #[.slice (some ⟨b, o, none⟩) n c] w fun e w' => e = .returned (.string (rootS ss o n)) ∧ Below w.heap.size w w' ∧ Good b ss lo hi w' := by
  induction k with
  | zero =>
    intro n o c w hk h1
    omega
  | succ k ih =>
    intro n o c w hk h1 hn hlo hhi hcap hcc hG
    rcases Nat.lt_or_ge n 2 with h2 | h2
    · obtain rfl : n = 1 := by omega
      exact (Root_one b o c (ss o) w (hss o) (hG.1 o hlo (by omega)) hG.2).mono fun e w' ⟨he, hB⟩ => ⟨by rw [he, rootS_one], hB, hG.below hB⟩
    · have hp1 := half_pos n
      have hp2 := half_le h2
      have hr := rootS_more (ss := ss) (o := o) h2
      have HS := Lib.hid (split_any n w h2 (by omega))
      have s1 := rootS_size ss o (half n)
      have s2 := rootS_size ss (o + half n) (n - half n)
      have HI1 : Hid (∀ w, Good b ss lo hi w → Calls Tryd.prog 27 #[.slice (some ⟨b, o, none⟩) (half n) c] w fun e w' => e = .returned (.string (rootS ss o (half n))) ∧ Below w.heap.size w w' ∧ Good b ss lo hi w') :=
        Lib.hid fun w hg => ih (half n) o c w (by omega) hp1 (by omega) hlo (by omega) (by omega) hcc hg
      have HI2 : Hid (∀ w, Good b ss lo hi w → Calls Tryd.prog 27 #[.slice (some ⟨b, o + half n, none⟩) (n - half n) (c - half n)] w fun e w' => e = .returned (.string (rootS ss (o + half n) (n - half n))) ∧ Below w.heap.size w w' ∧ Good b ss lo hi w') :=
        Lib.hid fun w hg => ih (n - half n) (o + half n) (c - half n) w (by omega) (by omega) (by omega) (by omega) (by omega) (by omega) (by omega) hg
      generalize rootS ss o (half n) = r1 at *
      generalize rootS ss (o + half n) (n - half n) = r2 at *
      generalize half n = h at *
      have HN : Hid (∀ w, Good b ss lo hi w → Calls Tryd.prog 17 #[.string r1, .string r2] w fun e w' => e = .returned (.string (nodeB r1 r2)) ∧ Below w.heap.size w w' ∧ Good b ss lo hi w') :=
        Lib.hid fun w hg => (Node_any r1 r2 w (by omega) (by omega) hg.2).mono fun e w' ⟨he, hb⟩ => ⟨he, hb, hg.below hb⟩
      have HR := Lib.hid hr
      have hhc : (h : Int) ≤ c := by omega
      have hhn : (h : Int) ≤ n := by omega
      have hn2 : 2 ≤ (n : Int) := by omega
      have hne : ¬ c = h := by omega
      have q1 : ((n : Int) == 0) = false := by simp; omega
      have q2 : ((n : Int) == 1) = false := by simp; omega
      clear hr ih hss hp2 hk hn s1 s2 h2 hlo hhi hcap
      go_enter Tryd.func27, Tryd.ntmps27
      go_wp2_with fail
      refine HS.out.mono ?_; rintro e w' ⟨rfl, rfl⟩
      go_wp2_with fail
      go_region_held3 (fun w' => Good b ss lo hi w') (assumption) (first | (go_at_call 27; (first | (with_reducible refine (HI1.out _ ?_).mono ?_) | (with_reducible refine (HI2.out _ ?_).mono ?_)); assumption; rintro e w' ⟨rfl, hB2, hG2⟩) | (go_at_call 17; (with_reducible refine (HN.out _ ?_).mono ?_); assumption; rintro e w' ⟨rfl, hB2, hG2⟩))
      rename_i wa hBa hGa wb hBb hGb hH
      have hBB := Lib.hid (belowStep (belowStep ((Below.refl w.heap.size w).drew.trans hBa) hBb) hB2)
      clear hBa hBb hB2 hGa hGb hH
      go_wp2_with fail
      go_ret
      exact ⟨by rw [HR.out]; rfl, hBB.out, hG2⟩
end Go.Proofs.YtdhpighnkoamiaaDoor
