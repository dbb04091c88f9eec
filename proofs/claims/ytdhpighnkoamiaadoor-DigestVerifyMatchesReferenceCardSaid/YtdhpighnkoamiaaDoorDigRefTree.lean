/- The contracts of the reference's Root. -/
import Derived.Test.YtdhpighnkoamiaaDoorDigRefLeaf
namespace Go.Proofs.YtdhpighnkoamiaaDoor
open Go.RowKit Putlog

set_option maxHeartbeats 400000 in
theorem rRoot_zero (a : Option Addr) (c : Nat) (w : World) (_hT : TabAt w) :
    Calls Tryd.prog 28 #[.slice a 0 c] w fun e w' => e = .returned (.string (shaB ByteArray.empty)) ∧ Below w.heap.size w w' := by
  have HS := Lib.hid (rsum_any ⟨#[]⟩ w (by decide))
  clear _hT
  go_enter Tryd.func28, Tryd.ntmps28
  go_wp2_with fail
  refine HS.out.mono ?_
  rintro e w' ⟨rfl, hB⟩
  go_wp2_with fail
  go_ret
  exact ⟨rfl, hB⟩
set_option maxHeartbeats 400000 in
theorem rRoot_one (b o c : Nat) (s : ByteArray) (w : World) (hs : s.size ≤ 1000) (hc : w.cell? ⟨b, o, none⟩ = some (.string s)) (_hT : TabAt w) :
    Calls Tryd.prog 28 #[.slice (some ⟨b, o, none⟩) 1 c] w fun e w' => e = .returned (.string (leafB s)) ∧ Below w.heap.size w w' := by
  have HS := Lib.hid (rleaf_any s w (by omega))
  clear _hT
  go_enter Tryd.func28, Tryd.ntmps28
  go_wp2_with fail
  refine HS.out.mono ?_
  rintro e w' ⟨rfl, hB⟩
  go_wp2_with fail
  go_ret
  exact ⟨rfl, hB⟩

set_option maxRecDepth 100000 in
set_option maxHeartbeats 2000000 in
theorem rRoot_all (b lo hi : Nat) (ss : Nat → ByteArray) (hss : ∀ j, (ss j).size ≤ 1000) (k : Nat) : ∀ (n o c : Nat) (w : World), n ≤ k → 1 ≤ n → (n : Int) ≤ 281474976710656 → lo ≤ o → o + n ≤ hi → n ≤ c → (c : Int) ≤ 9223372036854775807 → Good b ss lo hi w →
    Calls Tryd.prog 28 #[.slice (some ⟨b, o, none⟩) n c] w fun e w' => e = .returned (.string (rootS ss o n)) ∧ Below w.heap.size w w' ∧ Good b ss lo hi w' := by
  induction k with
  | zero =>
    intro n o c w hk h1
    omega
  | succ k ih =>
    intro n o c w hk h1 hn hlo hhi hcap hcc hG
    rcases Nat.lt_or_ge n 2 with h2 | h2
    · obtain rfl : n = 1 := by omega
      exact (rRoot_one b o c (ss o) w (hss o) (hG.1 o hlo (by omega)) hG.2).mono fun e w' ⟨he, hB⟩ => ⟨by rw [he, rootS_one], hB, hG.below hB⟩
    · have hp1 := half_pos n
      have hp2 := half_le h2
      have hr := rootS_more (ss := ss) (o := o) h2
      have HS := Lib.hid (rleft_any n w h2 (by omega))
      have s1 := rootS_size ss o (half n)
      have s2 := rootS_size ss (o + half n) (n - half n)
      have HI1 : Hid (∀ w, Good b ss lo hi w → Calls Tryd.prog 28 #[.slice (some ⟨b, o, none⟩) (half n) c] w fun e w' => e = .returned (.string (rootS ss o (half n))) ∧ Below w.heap.size w w' ∧ Good b ss lo hi w') :=
        Lib.hid fun w hg => ih (half n) o c w (by omega) hp1 (by omega) hlo (by omega) (by omega) hcc hg
      have HI2 : Hid (∀ w, Good b ss lo hi w → Calls Tryd.prog 28 #[.slice (some ⟨b, o + half n, none⟩) (n - half n) (c - half n)] w fun e w' => e = .returned (.string (rootS ss (o + half n) (n - half n))) ∧ Below w.heap.size w w' ∧ Good b ss lo hi w') :=
        Lib.hid fun w hg => ih (n - half n) (o + half n) (c - half n) w (by omega) (by omega) (by omega) (by omega) (by omega) (by omega) (by omega) hg
      generalize rootS ss o (half n) = r1 at *
      generalize rootS ss (o + half n) (n - half n) = r2 at *
      generalize half n = h at *
      have HN : Hid (∀ w, Good b ss lo hi w → Calls Tryd.prog 18 #[.string r1, .string r2] w fun e w' => e = .returned (.string (nodeB r1 r2)) ∧ Below w.heap.size w w' ∧ Good b ss lo hi w') :=
        Lib.hid fun w hg => (rnode_any r1 r2 w (by omega) (by omega)).mono fun e w' ⟨he, hb⟩ => ⟨he, hb, hg.below hb⟩
      have HR := Lib.hid hr
      have hhc : (h : Int) ≤ c := by omega
      have hhn : (h : Int) ≤ n := by omega
      have hn2 : 2 ≤ (n : Int) := by omega
      have hne : ¬ c = h := by omega
      have q1 : ((n : Int) == 0) = false := by simp; omega
      have q2 : ((n : Int) == 1) = false := by simp; omega
      clear hr ih hss hp2 hk hn s1 s2 h2 hlo hhi hcap
      go_enter Tryd.func28, Tryd.ntmps28
      go_wp2_with fail
      refine HS.out.mono ?_; rintro e w' ⟨rfl, rfl⟩
      go_wp2_with fail
      go_region_held3 (fun w' => Good b ss lo hi w') (assumption) (first | (go_at_call 28; (first | (with_reducible refine (HI1.out _ ?_).mono ?_) | (with_reducible refine (HI2.out _ ?_).mono ?_)); assumption; rintro e w' ⟨rfl, hB2, hG2⟩) | (go_at_call 18; (with_reducible refine (HN.out _ ?_).mono ?_); assumption; rintro e w' ⟨rfl, hB2, hG2⟩))
      rename_i wa hBa hGa wb hBb hGb hH
      have hBB := Lib.hid (belowStep (belowStep ((Below.refl w.heap.size w).drew.trans hBa) hBb) hB2)
      clear hBa hBb hB2 hGa hGb hH
      go_wp2_with fail
      go_ret
      exact ⟨by rw [HR.out]; rfl, hBB.out, hG2⟩
end Go.Proofs.YtdhpighnkoamiaaDoor
