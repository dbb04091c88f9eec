/- The contract of part. -/
import Derived.Test.YtdhpighnkoamiaaDoorDigBeside
namespace Go.Proofs.YtdhpighnkoamiaaDoor
open Go.RowKit Putlog

theorem partS_len (ss : Nat → ByteArray) (k : Nat) : ∀ (n o m : Nat) (whole : Bool), n ≤ k → 1 ≤ n → (partS ss o n m whole).length ≤ n := by
  induction k with
  | zero => intro n o m whole h h1; omega
  | succ k ih =>
    intro n o m whole h h1
    rw [partS]
    split
    · split
      · simp
      · simp; omega
    · split
      · simp
      · have := half_pos n
        have := half_lt (n := n) (by omega)
        split
        · have := ih (half n) o m whole (by omega) (by omega); simp; omega
        · have := ih (n - half n) (o + half n) (m - half n) false (by omega) (by omega); simp; omega
theorem GivesRow.one {b lo hi : Nat} {ss : Nat → ByteArray} {r : ByteArray} {w w1 : World} (hG : Good b ss lo hi w) (hB : Below w.heap.size w w1) :
    GivesRow b ss lo hi [r] w (.returned (.slice (some ⟨w1.heap.size, 0, none⟩) 1 1)) (w1.alloc (.cells #[.string r] 9)) := by
  have hB2 : Below w.heap.size w (w1.alloc (.cells #[.string r] 9)) := hB.alloc hB.size _
  refine ⟨_, rfl, ⟨rfl, .inr ⟨w1.heap.size, 1, #[.string r], rfl, hB.size, ArrAt.new _ _ _, Nat.le_refl _, by unfold maxLen; omega, rfl, rfl⟩⟩, hB2, hG.below hB2⟩

set_option maxRecDepth 100000 in
set_option maxHeartbeats 4000000 in
theorem part_all (b lo hi : Nat) (ss : Nat → ByteArray) (hss : ∀ j, (ss j).size ≤ 140737488355327) (k : Nat) :
    ∀ (n m o c : Nat) (whole : Bool) (w : World), n ≤ k → 1 ≤ m → m ≤ n → (n : Int) ≤ 1048576 → lo ≤ o → o + n ≤ hi → n ≤ c → (c : Int) ≤ 9223372036854775807 → Good b ss lo hi w →
    Calls Tryd.prog 45 #[.slice (some ⟨b, o, none⟩) n c, .int .i64 m, .bool whole] w (GivesRow b ss lo hi (partS ss o n m whole) w) := by
  obtain ⟨i0, hi0, hz0, hz1, hz2⟩ := info_parts info9
  have HI0 := Lib.hid hi0
  have HZ0 := Lib.hid hz0
  have HZ1 := Lib.hid hz1
  have HZ2 := Lib.hid hz2
  clear hi0 hz0 hz1 hz2
  induction k with
  | zero =>
    intro n m o c whole w hk h1
    omega
  | succ k ih =>
    intro n m o c whole w hk h1 hmn hn hlo hhi hcap hcc hG
    by_cases hmn2 : m = n
    · subst hmn2
      cases whole with
      | true =>
        rw [partS_whole]
        have HG := Lib.hid (GivesRow.nil b lo hi ss hG)
        clear ih hG
        go_enter Tryd.func45, Tryd.ntmps45
        go_wp2_with fail
        go_ret
        exact HG.out
      | false =>
        rw [partS_all]
        have HR := Lib.hid (Root_all b lo hi ss hss m m o c w (Nat.le_refl _) h1 (by omega) hlo hhi hcap (by omega) hG)
        clear ih
        go_enter Tryd.func45, Tryd.ntmps45
        go_wp2_with fail
        refine HR.out.mono ?_; rintro e w1 ⟨rfl, hB, hG1⟩
        have HF := Lib.hid (GivesRow.one (r := rootS ss o m) hG hB)
        clear hB hG1
        go_wp2_with fail
        go_ret
        exact HF.out
    · have hlt : m < n := by omega
      have hq1 : ((m : Int) == n) = false := by simp; omega
      have hp1 := half_pos n
      have hp2 := half_le (n := n) (by omega)
      have HSP := Lib.hid (fun w => split_any n w (by omega) (by omega))
      rcases Nat.lt_or_ge (half n) m with hih | hih
      · have hv := partS_right (ss := ss) (o := o) (whole := whole) hlt hih
        have hlen := partS_len ss (n - half n) (n - half n) (o + half n) (m - half n) false (Nat.le_refl _) (by omega)
        have HI : Hid (∀ w, Good b ss lo hi w → Calls Tryd.prog 45 #[.slice (some ⟨b, o + half n, none⟩) (n - half n) (c - half n), .int .i64 ((m : Int) - (half n : Nat)), .bool false] w (GivesRow b ss lo hi (partS ss (o + half n) (n - half n) (m - half n) false) w)) :=
          Lib.hid fun w hg => by
            have := ih (n - half n) (m - half n) (o + half n) (c - half n) false w (by omega) (by omega) (by omega) (by omega) (by omega) (by omega) (by omega) (by omega) hg
            rwa [show ((m - half n : Nat) : Int) = (m : Int) - (half n : Nat) by omega] at this
        have HR : Hid (∀ w, Good b ss lo hi w → Calls Tryd.prog 27 #[.slice (some ⟨b, o, none⟩) (half n) c] w fun e w' => e = .returned (.string (rootS ss o (half n))) ∧ Below w.heap.size w w' ∧ Good b ss lo hi w') :=
          Lib.hid fun w hg => Root_all b lo hi ss hss (half n) (half n) o c w (Nat.le_refl _) (by omega) (by omega) (by omega) (by omega) (by omega) (by omega) hg
        generalize partS ss (o + half n) (n - half n) (m - half n) false = xs at *
        generalize rootS ss o (half n) = r at *
        have hlt1 : ((half n : Nat) : Int) < m := by omega
        have hin : (m : Int) < n := by omega
        have hhc : ((half n : Nat) : Int) ≤ c := by omega
        have hhn : ((half n : Nat) : Int) ≤ n := by omega
        have hxl : xs.length ≤ 1048576 := by omega
        have hne : ¬ c = half n := by omega
        have e1 : IntKind.i64.wrap ((m : Int) - (half n : Nat)) = (m : Int) - (half n : Nat) := IntWalk.i64_in _ (by omega)
        generalize half n = h at *
        have HV := Lib.hid hv
        clear hv ih hss hp1 hp2 hk hn hlo hhi hcap hih hlen h1 hlt hmn hmn2
        go_enter Tryd.func45, Tryd.ntmps45
        go_wp2_with fail
        refine (HSP.out _).mono ?_; rintro e w' ⟨rfl, rfl⟩
        go_wp2_with fail
        go_region_held3 (fun _ => True) (trivial) (first
          | (go_at_call 45; (with_reducible refine (HI.out _ ?_).mono ?_); exact hG; rintro e w1 ⟨v, rfl, hown, hBa, hGa⟩)
          | (go_at_call 27; (with_reducible refine (HR.out _ ?_).mono ?_); exact hGa; rintro e w2 ⟨rfl, hBb, hGb⟩)
          | (refine step_append_own rfl _ _ 26 rfl _ 9 i0 (.string ⟨#[]⟩) 1 16 Tryd.underlying26 HI0.out HZ0.out HZ1.out HZ2.out rfl (by decide) v xs.length (xs.map Value.string) (by rfl) ((ownsRow_below hown hBb).alloc _) ⟨w2.heap.size, 0, none⟩ 1 1 [.string r] (by rfl) rfl (news_one _ _ _) (one_one _) (row_b1 hxl) (row_b2 hxl) (row_b3 hBa hBb) (fun v' w3 hown3 hgrow3 => ?_)))
        have HF := Lib.hid (GivesRow.snoc hG hBa hBb hown hgrow3 hown3)
        clear hBa hBb hown hgrow3 hown3 hGa hGb
        go_wp2_with fail
        go_ret
        rw [HV.out]
        exact HF.out
      · have hv := partS_left (ss := ss) (o := o) (whole := whole) hlt h1 hih
        have hlen := partS_len ss (half n) (half n) o m whole (Nat.le_refl _) (by omega)
        have HI : Hid (∀ w, Good b ss lo hi w → Calls Tryd.prog 45 #[.slice (some ⟨b, o, none⟩) (half n) c, .int .i64 m, .bool whole] w (GivesRow b ss lo hi (partS ss o (half n) m whole) w)) :=
          Lib.hid fun w hg => ih (half n) m o c whole w (by omega) h1 hih (by omega) hlo (by omega) (by omega) hcc hg
        have HR : Hid (∀ w, Good b ss lo hi w → Calls Tryd.prog 27 #[.slice (some ⟨b, o + half n, none⟩) (n - half n) (c - half n)] w fun e w' => e = .returned (.string (rootS ss (o + half n) (n - half n))) ∧ Below w.heap.size w w' ∧ Good b ss lo hi w') :=
          Lib.hid fun w hg => Root_all b lo hi ss hss (n - half n) (n - half n) (o + half n) (c - half n) w (Nat.le_refl _) (by omega) (by omega) (by omega) (by omega) (by omega) (by omega) hg
        generalize partS ss o (half n) m whole = xs at *
        generalize rootS ss (o + half n) (n - half n) = r at *
        have hlt1 : (m : Int) ≤ (half n : Nat) := by omega
        have hin : (m : Int) < n := by omega
        have hhc : ((half n : Nat) : Int) ≤ c := by omega
        have hhn : ((half n : Nat) : Int) ≤ n := by omega
        have hxl : xs.length ≤ 1048576 := by omega
        have hne : ¬ c = half n := by omega
        generalize half n = h at *
        have HV := Lib.hid hv
        clear hv ih hss hp1 hp2 hk hn hlo hhi hcap hih hlen h1 hlt hmn hmn2
        go_enter Tryd.func45, Tryd.ntmps45
        go_wp2_with fail
        refine (HSP.out _).mono ?_; rintro e w' ⟨rfl, rfl⟩
        go_wp2_with fail
        go_region_held3 (fun _ => True) (trivial) (first
          | (go_at_call 45; (with_reducible refine (HI.out _ ?_).mono ?_); exact hG; rintro e w1 ⟨v, rfl, hown, hBa, hGa⟩)
          | (go_at_call 27; (with_reducible refine (HR.out _ ?_).mono ?_); exact hGa; rintro e w2 ⟨rfl, hBb, hGb⟩)
          | (refine step_append_own rfl _ _ 26 rfl _ 9 i0 (.string ⟨#[]⟩) 1 16 Tryd.underlying26 HI0.out HZ0.out HZ1.out HZ2.out rfl (by decide) v xs.length (xs.map Value.string) (by rfl) ((ownsRow_below hown hBb).alloc _) ⟨w2.heap.size, 0, none⟩ 1 1 [.string r] (by rfl) rfl (news_one _ _ _) (one_one _) (row_b1 hxl) (row_b2 hxl) (row_b3 hBa hBb) (fun v' w3 hown3 hgrow3 => ?_)))
        have HF := Lib.hid (GivesRow.snoc hG hBa hBb hown hgrow3 hown3)
        clear hBa hBb hown hgrow3 hown3 hGa hGb
        go_wp2_with fail
        go_ret
        rw [HV.out]
        exact HF.out
end Go.Proofs.YtdhpighnkoamiaaDoor
