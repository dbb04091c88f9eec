/- The contract of the reference's Proof. -/
import Derived.Test.YtdhpighnkoamiaaDoorDigRefTree
import Derived.Test.YtdhpighnkoamiaaDoorDigVerify
namespace Go.Proofs.YtdhpighnkoamiaaDoor
open Go.RowKit Putlog

/-- A row of strings of the call's own, and the error 0. -/
def GivesRowE (b : Nat) (ss : Nat → ByteArray) (lo hi : Nat) (xs : List ByteArray) (w : World) (e : Ending) (w' : World) : Prop :=
  ∃ v, e = .returned (.tuple #[v, .int .i64 0]) ∧ w'.ownsRow w.heap.size 9 1 v xs.length (xs.map Value.string) ∧ Below w.heap.size w w' ∧ Good b ss lo hi w'
theorem GivesRowE.nil (b lo hi : Nat) (ss : Nat → ByteArray) {w : World} (hG : Good b ss lo hi w) : GivesRowE b ss lo hi [] w (.returned (.tuple #[.slice none 0 0, .int .i64 0])) w :=
  ⟨_, rfl, World.ownsRow_nil _ _ _ _, Below.refl _ _, hG⟩
theorem GivesRowE.snoc {b lo hi : Nat} {ss : Nat → ByteArray} {xs : List ByteArray} {r : ByteArray} {w w1 w2 w3 : World} {v v' : Value} (hG : Good b ss lo hi w) (hBa : Below w.heap.size w w1) (hBb : Below w1.heap.size w1 w2)
    (hown : w1.ownsRow w.heap.size 9 1 v xs.length (xs.map Value.string)) (hg : (w2.alloc (.cells #[.string r] 9)).grownBy w3 v.ownBlock)
    (hown3 : w3.ownsRow w.heap.size 9 1 v' (xs.length + 1) (xs.map Value.string ++ [Value.string r])) : GivesRowE b ss lo hi (xs ++ [r]) w (.returned (.tuple #[v', .int .i64 0])) w3 := by
  have hB3 := row_below hBa hBb hown hg
  refine ⟨v', rfl, ?_, hB3, hG.below hB3⟩
  have : (xs ++ [r]).map Value.string = xs.map Value.string ++ [Value.string r] := by simp
  rw [this, List.length_append]
  exact hown3

set_option maxRecDepth 100000 in
set_option maxHeartbeats 4000000 in
theorem rproof_all (b lo hi : Nat) (ss : Nat → ByteArray) (hss : ∀ j, (ss j).size ≤ 1000) (k : Nat) :
    ∀ (n i o c : Nat) (w : World), n ≤ k → 1 ≤ n → (n : Int) ≤ 1048576 → i < n → lo ≤ o → o + n ≤ hi → n ≤ c → (c : Int) ≤ 9223372036854775807 → Good b ss lo hi w →
    Calls Tryd.prog 23 #[.slice (some ⟨b, o, none⟩) n c, .int .i64 i] w (GivesRowE b ss lo hi (besideS ss o n i) w) := by
  obtain ⟨i0, hi0, hz0, hz1, hz2⟩ := info_parts info9
  have HI0 := Lib.hid hi0
  have HZ0 := Lib.hid hz0
  have HZ1 := Lib.hid hz1
  have HZ2 := Lib.hid hz2
  clear hi0 hz0 hz1 hz2
  induction k with
  | zero =>
    intro n i o c w hk h1
    omega
  | succ k ih =>
    intro n i o c w hk h1 hn hi1 hlo hhi hcap hcc hG
    rcases Nat.lt_or_ge n 2 with h2 | h2
    · obtain rfl : n = 1 := by omega
      rw [besideS_one (Nat.le_refl _)]
      have HG := Lib.hid (GivesRowE.nil b lo hi ss hG)
      clear ih hG
      go_enter Tryd.func23, Tryd.ntmps23
      go_wp2_with fail
      go_ret2
      exact HG.out
    · have hp1 := half_pos n
      have hp2 := half_le h2
      have HSP := Lib.hid (fun w => rleft_any n w h2 (by omega))
      rcases Nat.lt_or_ge i (half n) with hih | hih
      · have hv := besideS_left (ss := ss) (o := o) h2 hih
        have hlen := besideS_len ss (half n) (half n) o i (Nat.le_refl _)
        have HI : Hid (∀ w, Good b ss lo hi w → Calls Tryd.prog 23 #[.slice (some ⟨b, o, none⟩) (half n) c, .int .i64 i] w (GivesRowE b ss lo hi (besideS ss o (half n) i) w)) :=
          Lib.hid fun w hg => ih (half n) i o c w (by omega) hp1 (by omega) hih hlo (by omega) (by omega) hcc hg
        have HR : Hid (∀ w, Good b ss lo hi w → Calls Tryd.prog 28 #[.slice (some ⟨b, o + half n, none⟩) (n - half n) (c - half n)] w fun e w' => e = .returned (.string (rootS ss (o + half n) (n - half n))) ∧ Below w.heap.size w w' ∧ Good b ss lo hi w') :=
          Lib.hid fun w hg => rRoot_all b lo hi ss hss (n - half n) (n - half n) (o + half n) (c - half n) w (Nat.le_refl _) (by omega) (by omega) (by omega) (by omega) (by omega) (by omega) hg
        generalize besideS ss o (half n) i = xs at *
        generalize rootS ss (o + half n) (n - half n) = r at *
        have hlt : (i : Int) < (half n : Nat) := by omega
        have hhc : ((half n : Nat) : Int) ≤ c := by omega
        have hhn : ((half n : Nat) : Int) ≤ n := by omega
        have hxl : xs.length ≤ 1048576 := by omega
        have q2 : ((n : Int) == 1) = false := by simp; omega
        have hne : ¬ c = half n := by omega
        generalize half n = h at *
        have HV := Lib.hid hv
        clear hv ih hss hp1 hp2 hk hn h2 hlo hhi hcap hih hi1 hlen h1
        go_enter Tryd.func23, Tryd.ntmps23
        go_wp2_with fail
        refine (HSP.out _).mono ?_; rintro e w' ⟨rfl, rfl⟩
        go_wp2_with fail
        refine (HI.out _ hG).mono ?_; rintro e w1 ⟨v, rfl, hown, hBa, hGa⟩
        go_wp2_with fail
        refine (HR.out _ hGa).mono ?_; rintro e w2 ⟨rfl, hBb, hGb⟩
        go_wp2_with (at_builtin; refine wpList_append_own _ rfl _ _ 26 rfl w.heap.size 9 i0 (.string ⟨#[]⟩) 1 16 Tryd.underlying26 HI0.out HZ0.out HZ1.out HZ2.out rfl (by decide) v xs.length (xs.map Value.string) (by rfl) ((ownsRow_below hown hBb).alloc _) ⟨w2.heap.size, 0, none⟩ 1 1 [.string r] (by rfl) rfl (news_one _ _ _) (one_one _) (row_b1 hxl) (row_b2 hxl) (row_b3 hBa hBb) ?_; intro v' w3 hown3 hgrow3 _)
        have HF := Lib.hid (GivesRowE.snoc hG hBa hBb hown hgrow3 hown3)
        clear hBa hBb hown hgrow3 hown3 hGa hGb
        go_wp2_with fail
        go_ret2
        rw [HV.out]
        exact HF.out
      · have hv := besideS_right (ss := ss) (o := o) h2 hih
        have hlen := besideS_len ss (n - half n) (n - half n) (o + half n) (i - half n) (Nat.le_refl _)
        have HI : Hid (∀ w, Good b ss lo hi w → Calls Tryd.prog 23 #[.slice (some ⟨b, o + half n, none⟩) (n - half n) (c - half n), .int .i64 ((i : Int) - (half n : Nat))] w (GivesRowE b ss lo hi (besideS ss (o + half n) (n - half n) (i - half n)) w)) :=
          Lib.hid fun w hg => by
            have := ih (n - half n) (i - half n) (o + half n) (c - half n) w (by omega) (by omega) (by omega) (by omega) (by omega) (by omega) (by omega) (by omega) hg
            rwa [show ((i - half n : Nat) : Int) = (i : Int) - (half n : Nat) by omega] at this
        have HR : Hid (∀ w, Good b ss lo hi w → Calls Tryd.prog 28 #[.slice (some ⟨b, o, none⟩) (half n) c] w fun e w' => e = .returned (.string (rootS ss o (half n))) ∧ Below w.heap.size w w' ∧ Good b ss lo hi w') :=
          Lib.hid fun w hg => rRoot_all b lo hi ss hss (half n) (half n) o c w (Nat.le_refl _) (by omega) (by omega) (by omega) (by omega) (by omega) (by omega) hg
        generalize besideS ss (o + half n) (n - half n) (i - half n) = xs at *
        generalize rootS ss o (half n) = r at *
        have hlt : ((half n : Nat) : Int) ≤ i := by omega
        have hin : (i : Int) < n := by omega
        have hhc : ((half n : Nat) : Int) ≤ c := by omega
        have hhn : ((half n : Nat) : Int) ≤ n := by omega
        have hxl : xs.length ≤ 1048576 := by omega
        have q2 : ((n : Int) == 1) = false := by simp; omega
        have hne : ¬ c = half n := by omega
        have e1 : IntKind.i64.wrap ((i : Int) - (half n : Nat)) = (i : Int) - (half n : Nat) := IntWalk.i64_in _ (by omega)
        generalize half n = h at *
        have HV := Lib.hid hv
        clear hv ih hss hp1 hp2 hk hn h2 hlo hhi hcap hih hi1 hlen h1
        go_enter Tryd.func23, Tryd.ntmps23
        go_wp2_with fail
        refine (HSP.out _).mono ?_; rintro e w' ⟨rfl, rfl⟩
        go_wp2_with fail
        refine (HI.out _ hG).mono ?_; rintro e w1 ⟨v, rfl, hown, hBa, hGa⟩
        go_wp2_with fail
        refine (HR.out _ hGa).mono ?_; rintro e w2 ⟨rfl, hBb, hGb⟩
        go_wp2_with (at_builtin; refine wpList_append_own _ rfl _ _ 26 rfl w.heap.size 9 i0 (.string ⟨#[]⟩) 1 16 Tryd.underlying26 HI0.out HZ0.out HZ1.out HZ2.out rfl (by decide) v xs.length (xs.map Value.string) (by rfl) ((ownsRow_below hown hBb).alloc _) ⟨w2.heap.size, 0, none⟩ 1 1 [.string r] (by rfl) rfl (news_one _ _ _) (one_one _) (row_b1 hxl) (row_b2 hxl) (row_b3 hBa hBb) ?_; intro v' w3 hown3 hgrow3 _)
        have HF := Lib.hid (GivesRowE.snoc hG hBa hBb hown hgrow3 hown3)
        clear hBa hBb hown hgrow3 hown3 hGa hGb
        go_wp2_with fail
        go_ret2
        rw [HV.out]
        exact HF.out
end Go.Proofs.YtdhpighnkoamiaaDoor
