/- The contracts of valueOf and Verify. -/
import Derived.Test.YtdhpighnkoamiaaDoorDigTree
namespace Go.Proofs.YtdhpighnkoamiaaDoor
open Go.RowKit Putlog

set_option maxRecDepth 100000 in
set_option maxHeartbeats 4000000 in
theorem valueOf_all (b o : Nat) (ps : Nat → ByteArray) (s : ByteArray) (hps : ∀ j, (ps j).size ≤ 140737488355327) (hs : s.size ≤ 140737488355327) (k : Nat) :
    ∀ (n i m c : Nat) (a : Option Addr) (w : World), n ≤ k → 1 ≤ n → (n : Int) ≤ 9223372036854775807 → i < n → m ≤ c → (m : Int) ≤ 1048576 → (0 < m → a = some ⟨b, o, none⟩) → Good b ps o (o + m) w →
    Calls Tryd.prog 49 #[.int .i64 n, .int .i64 i, .string s, .slice a m c] w fun e w' => e = .returned (.tuple #[.string (valueS (fun j => ps (o + j)) s n i m).1, .bool (valueS (fun j => ps (o + j)) s n i m).2]) ∧ Below w.heap.size w w' := by
  induction k with
  | zero =>
    intro n i m c a w hk h1
    omega
  | succ k ih =>
    intro n i m c a w hk h1 hn hi hmc hc ha hG
    rcases Nat.lt_or_ge n 2 with h2 | h2
    · obtain rfl : n = 1 := by omega
      have HS := Lib.hid (Leaf_any s w (by omega) hG.2)
      have hv := valueS_one (ps := fun j => ps (o + j)) (s := s) (i := i) (m := m) (Nat.le_refl 1)
      rw [hv]
      have hl : (leafB s) = shaB ((⟨#[0]⟩ : ByteArray) ++ s) := rfl
      rw [← hl] at HS
      generalize leafB s = r at *
      clear hv hl ih hG
      by_cases hm : m = 0
      · subst hm
        go_enter Tryd.func49, Tryd.ntmps49
        go_wp2_with fail
        refine HS.out.mono ?_; rintro e w' ⟨rfl, hB⟩
        go_wp2_with fail
        go_ret2
        exact ⟨rfl, hB⟩
      · have hm1 : ((m : Int) == 0) = false := by simp; omega
        have HM : Hid ((m == 0) = false) := by show (m == 0) = false; simp; omega
        clear hm
        go_enter Tryd.func49, Tryd.ntmps49
        go_wp2_with fail
        refine HS.out.mono ?_; rintro e w' ⟨rfl, hB⟩
        go_wp2_with fail
        go_ret2
        exact ⟨by rw [HM.out]; rfl, hB⟩
    · have hn1 : ((n : Int) == 1) = false := by simp; omega
      rcases Nat.eq_zero_or_pos m with rfl | hm
      · rw [valueS_nil h2]
        clear ih hG
        go_enter Tryd.func49, Tryd.ntmps49
        go_wp2_with fail
        go_ret2
        exact ⟨rfl, Below.refl _ _⟩
      · obtain ⟨m, rfl⟩ : ∃ q, m = q + 1 := ⟨m - 1, by omega⟩
        obtain rfl := ha (by omega)
        have hm1 : (((m + 1 : Nat) : Int) == 0) = false := by simp; omega
        have hp1 := half_pos n
        have hp2 := half_le h2
        have HSP := Lib.hid (fun w => split_any n w h2 hn)
        have HCU := Lib.hid (cut_any ps b o m c w (by omega) (by omega) (hG.1 (o + m) (by omega) (by omega)))
        have hx := hps (o + m)
        rcases Nat.lt_or_ge i (half n) with hih | hih
        · have hv := valueS_left (ps := fun j => ps (o + j)) (s := s) (m := m) h2 hih
          have hvs := valueS_size (fun j => ps (o + j)) s (half n) i m
          have HI : Hid (∀ w, Good b ps o (o + (m + 1)) w → Calls Tryd.prog 49 #[.int .i64 (half n : Nat), .int .i64 i, .string s, .slice (some ⟨b, o, none⟩) m c] w fun e w' => e = .returned (.tuple #[.string (valueS (fun j => ps (o + j)) s (half n) i m).1, .bool (valueS (fun j => ps (o + j)) s (half n) i m).2]) ∧ Below w.heap.size w w') :=
            Lib.hid fun w hg => ih (half n) i m c _ w (by omega) hp1 (by omega) hih (by omega) (by omega) (fun _ => rfl) ⟨fun j h1 h2 => hg.1 j h1 (by omega), hg.2⟩
          rw [hv]
          generalize valueS (fun j => ps (o + j)) s (half n) i m = v at *
          obtain ⟨v1, v2⟩ := v
          simp only at hvs HI ⊢
          generalize ps (o + m) = x at *
          have HN : Hid (∀ w, TabAt w → Calls Tryd.prog 17 #[.string v1, .string x] w fun e w' => e = .returned (.string (nodeB v1 x)) ∧ Below w.heap.size w w') :=
            Lib.hid fun w hg => Node_any v1 x w (by omega) (by omega) hg
          have hlt : (i : Int) < (half n : Nat) := by omega
          generalize half n = h at *
          have HG := Lib.hid hG
          clear hv ih hps hp1 hp2 hk h1 hn hi ha hih hvs hx h2 hG hm hc hmc
          go_enter Tryd.func49, Tryd.ntmps49
          go_wp2_with fail
          refine HCU.out.mono ?_; rintro e w' ⟨rfl, q, rfl⟩
          go_wp2_with fail
          refine (HSP.out _).mono ?_; rintro e w' ⟨rfl, rfl⟩
          go_wp2_with fail
          refine (HI.out _ (HG.out.drewN q)).mono ?_; rintro e w1 ⟨rfl, hB⟩
          have HG1 := Lib.hid ((HG.out.drewN q).below hB)
          go_wp2_with fail
          refine (HN.out _ HG1.out.2).mono ?_; rintro e w2 ⟨rfl, hB2⟩
          go_wp2_with fail
          go_ret2
          exact ⟨rfl, belowStep ((below_drewN (Below.refl w.heap.size w) q).trans hB) hB2⟩
        · have hv := valueS_right (ps := fun j => ps (o + j)) (s := s) (m := m) h2 hih
          have hvs := valueS_size (fun j => ps (o + j)) s (n - half n) (i - half n) m
          have HI : Hid (∀ w, Good b ps o (o + (m + 1)) w → Calls Tryd.prog 49 #[.int .i64 ((n : Int) - (half n : Nat)), .int .i64 ((i : Int) - (half n : Nat)), .string s, .slice (some ⟨b, o, none⟩) m c] w fun e w' => e = .returned (.tuple #[.string (valueS (fun j => ps (o + j)) s (n - half n) (i - half n) m).1, .bool (valueS (fun j => ps (o + j)) s (n - half n) (i - half n) m).2]) ∧ Below w.heap.size w w') :=
            Lib.hid fun w hg => by
              have := ih (n - half n) (i - half n) m c _ w (by omega) (by omega) (by omega) (by omega) (by omega) (by omega) (fun _ => rfl) ⟨fun j h1 h2 => hg.1 j h1 (by omega), hg.2⟩
              rwa [show ((n - half n : Nat) : Int) = (n : Int) - (half n : Nat) by omega, show ((i - half n : Nat) : Int) = (i : Int) - (half n : Nat) by omega] at this
          rw [hv]
          generalize valueS (fun j => ps (o + j)) s (n - half n) (i - half n) m = v at *
          obtain ⟨v1, v2⟩ := v
          simp only at hvs HI ⊢
          generalize ps (o + m) = x at *
          have HN : Hid (∀ w, TabAt w → Calls Tryd.prog 17 #[.string x, .string v1] w fun e w' => e = .returned (.string (nodeB x v1)) ∧ Below w.heap.size w w') :=
            Lib.hid fun w hg => Node_any x v1 w (by omega) (by omega) hg
          have hlt : ((half n : Nat) : Int) ≤ i := by omega
          have hin : (i : Int) < n := by omega
          generalize half n = h at *
          have HG := Lib.hid hG
          clear hv ih hps hp1 hp2 hk h1 hi ha hih hvs hx h2 hG hm hc hmc
          go_enter Tryd.func49, Tryd.ntmps49
          go_wp2_with fail
          refine HCU.out.mono ?_; rintro e w' ⟨rfl, q, rfl⟩
          go_wp2_with fail
          refine (HSP.out _).mono ?_; rintro e w' ⟨rfl, rfl⟩
          go_wp2_with fail
          refine (HI.out _ (HG.out.drewN q)).mono ?_; rintro e w1 ⟨rfl, hB⟩
          have HG1 := Lib.hid ((HG.out.drewN q).below hB)
          go_wp2_with fail
          refine (HN.out _ HG1.out.2).mono ?_; rintro e w2 ⟨rfl, hB2⟩
          go_wp2_with fail
          go_ret2
          exact ⟨rfl, belowStep ((below_drewN (Below.refl w.heap.size w) q).trans hB) hB2⟩
end Go.Proofs.YtdhpighnkoamiaaDoor
