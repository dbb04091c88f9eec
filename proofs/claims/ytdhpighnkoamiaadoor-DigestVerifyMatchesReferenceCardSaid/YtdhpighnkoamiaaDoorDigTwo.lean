/- The contract of twoValues. -/
import Derived.Test.YtdhpighnkoamiaaDoorDigTree
namespace Go.Proofs.YtdhpighnkoamiaaDoor
open Go.RowKit Putlog

theorem twoS_size {ps : Nat → ByteArray} {old : ByteArray} (hps : ∀ j, (ps j).size ≤ 140737488355327) (ho : old.size ≤ 140737488355327) (f : Nat) : ∀ (m n k : Nat) (whole : Bool), n ≤ f →
    (twoS ps old m n k whole).1.size ≤ 140737488355327 ∧ (twoS ps old m n k whole).2.1.size ≤ 140737488355327 := by
  have h32 : ∀ a b : ByteArray, (nodeB a b).size ≤ 140737488355327 := fun a b => by have : (nodeB a b).size = 32 := shaB_size _; omega
  induction f with
  | zero =>
    intro m n k whole h
    rw [twoS]
    split
    · exact ⟨ho, ho⟩
    · split
      · exact ⟨by simp, by simp⟩
      · split
        · exact ⟨hps _, hps _⟩
        · rw [dif_pos (by omega)]; exact ⟨by simp, by simp⟩
  | succ f ih =>
    intro m n k whole h
    rw [twoS]
    split
    · exact ⟨ho, ho⟩
    · split
      · exact ⟨by simp, by simp⟩
      · split
        · exact ⟨hps _, hps _⟩
        · split
          · exact ⟨by simp, by simp⟩
          · have := half_lt (n := n) (by omega)
            split
            · exact ⟨(ih _ _ _ _ (by omega)).1, h32 _ _⟩
            · exact ⟨h32 _ _, h32 _ _⟩

set_option maxRecDepth 100000 in
set_option maxHeartbeats 4000000 in
theorem twoValues_all (b o : Nat) (ps : Nat → ByteArray) (old : ByteArray) (hps : ∀ j, (ps j).size ≤ 140737488355327) (ho : old.size ≤ 140737488355327) (k : Nat) :
    ∀ (m n q c : Nat) (whole : Bool) (a : Option Addr) (w : World), n ≤ k → 1 ≤ m → m ≤ n → (n : Int) ≤ 9223372036854775807 → q ≤ c → (q : Int) ≤ 1048576 → (0 < q → a = some ⟨b, o, none⟩) → Good b ps o (o + q) w →
    Calls Tryd.prog 52 #[.string old, .int .i64 m, .int .i64 n, .slice a q c, .bool whole] w fun e w' => e = .returned (.tuple #[.string (twoS (fun j => ps (o + j)) old m n q whole).1, .string (twoS (fun j => ps (o + j)) old m n q whole).2.1, .bool (twoS (fun j => ps (o + j)) old m n q whole).2.2]) ∧ Below w.heap.size w w' := by
  induction k with
  | zero =>
    intro m n q c whole a w hk h1
    omega
  | succ k ih =>
    intro m n q c whole a w hk h1 hmn hn hqc hc ha hG
    have hq0 : (0 : Nat) == 0 := rfl
    by_cases hwh : m = n ∧ whole = true
    · obtain ⟨rfl, rfl⟩ := hwh
      rw [twoS_whole]
      clear ih hG
      by_cases hq : q = 0
      · subst hq
        go_enter Tryd.func52, Tryd.ntmps52
        go_wp2_with fail
        go_ret3
        exact ⟨rfl, Below.refl _ _⟩
      · have hq1 : ((q : Int) == 0) = false := by simp; omega
        have HQ : Hid ((q == 0) = false) := by show (q == 0) = false; simp; omega
        clear hq
        go_enter Tryd.func52, Tryd.ntmps52
        go_wp2_with fail
        go_ret3
        exact ⟨by rw [HQ.out]; rfl, Below.refl _ _⟩
    · have hpick : Hid (whole = false ∨ ((m : Int) == n) = false) := by
        show whole = false ∨ ((m : Int) == n) = false
        cases whole with
        | false => exact .inl rfl
        | true => exact .inr (by have : m ≠ n := fun h => hwh ⟨h, rfl⟩; simp; omega)
      rcases Nat.eq_zero_or_pos q with rfl | hq
      · rw [twoS_nil hwh]
        clear ih hG hwh
        rcases hpick.out with rfl | hne
        · by_cases hmn2 : m = n
          · subst hmn2
            go_enter Tryd.func52, Tryd.ntmps52
            go_wp2_with fail
            go_ret3
            exact ⟨rfl, Below.refl _ _⟩
          · have hne : ((m : Int) == n) = false := by simp; omega
            clear hmn2
            go_enter Tryd.func52, Tryd.ntmps52
            go_wp2_with fail
            go_ret3
            exact ⟨rfl, Below.refl _ _⟩
        · clear hpick
          go_enter Tryd.func52, Tryd.ntmps52
          go_wp2_with fail
          go_ret3
          exact ⟨rfl, Below.refl _ _⟩
      · obtain ⟨q, rfl⟩ : ∃ p, q = p + 1 := ⟨q - 1, by omega⟩
        obtain rfl := ha (by omega)
        have hm1 : (((q + 1 : Nat) : Int) == 0) = false := by simp; omega
        have HCU := Lib.hid (cut_any ps b o q c w (by omega) (by omega) (hG.1 (o + q) (by omega) (by omega)))
        have hx := hps (o + q)
        by_cases hmn2 : m = n
        · subst hmn2
          have hwf : whole = false := by
            rcases Bool.eq_false_or_eq_true whole with h | h
            · exact absurd ⟨rfl, h⟩ hwh
            · exact h
          subst hwf
          rw [twoS_all]
          simp only
          generalize ps (o + q) = x at *
          clear ih hwh hG hpick hps hq hc hqc
          by_cases hq2 : q = 0
          · subst hq2
            go_enter Tryd.func52, Tryd.ntmps52
            go_wp2_with fail
            refine HCU.out.mono ?_; rintro e w' ⟨rfl, d, rfl⟩
            go_wp2_with fail
            go_ret3
            exact ⟨rfl, below_drewN (Below.refl _ _) _⟩
          · have hq3 : ((q : Int) == 0) = false := by simp; omega
            have HQ : Hid ((q == 0) = false) := by show (q == 0) = false; simp; omega
            clear hq2
            go_enter Tryd.func52, Tryd.ntmps52
            go_wp2_with fail
            refine HCU.out.mono ?_; rintro e w' ⟨rfl, d, rfl⟩
            go_wp2_with fail
            go_ret3
            exact ⟨by rw [HQ.out]; rfl, below_drewN (Below.refl _ _) _⟩
        · have hlt : m < n := by omega
          have hne : ((m : Int) == n) = false := by simp; omega
          have hp1 := half_pos n
          have hp2 := half_le (n := n) (by omega)
          have HSP := Lib.hid (fun w => split_any n w (by omega) hn)
          rcases Nat.lt_or_ge (half n) m with hih | hih
          · have hv := twoS_right (ps := fun j => ps (o + j)) (old := old) (k := q) (whole := whole) hlt hih
            have hvs := twoS_size (ps := fun j => ps (o + j)) (fun j => hps (o + j)) ho (n - half n) (m - half n) (n - half n) q false (Nat.le_refl _)
            have HI : Hid (∀ w, Good b ps o (o + (q + 1)) w → Calls Tryd.prog 52 #[.string old, .int .i64 ((m : Int) - (half n : Nat)), .int .i64 ((n : Int) - (half n : Nat)), .slice (some ⟨b, o, none⟩) q c, .bool false] w fun e w' => e = .returned (.tuple #[.string (twoS (fun j => ps (o + j)) old (m - half n) (n - half n) q false).1, .string (twoS (fun j => ps (o + j)) old (m - half n) (n - half n) q false).2.1, .bool (twoS (fun j => ps (o + j)) old (m - half n) (n - half n) q false).2.2]) ∧ Below w.heap.size w w') :=
              Lib.hid fun w hg => by
                have := ih (m - half n) (n - half n) q c false _ w (by omega) (by omega) (by omega) (by omega) (by omega) (by omega) (fun _ => rfl) ⟨fun j h1 h2 => hg.1 j h1 (by omega), hg.2⟩
                rwa [show ((n - half n : Nat) : Int) = (n : Int) - (half n : Nat) by omega, show ((m - half n : Nat) : Int) = (m : Int) - (half n : Nat) by omega] at this
            rw [hv]
            generalize twoS (fun j => ps (o + j)) old (m - half n) (n - half n) q false = v at *
            obtain ⟨v1, v2, v3⟩ := v
            simp only at hvs HI ⊢
            obtain ⟨hv1, hv2⟩ := hvs
            generalize ps (o + q) = x at *
            have HN1 : Hid (∀ w, TabAt w → Calls Tryd.prog 17 #[.string x, .string v1] w fun e w' => e = .returned (.string (nodeB x v1)) ∧ Below w.heap.size w w') :=
              Lib.hid fun w hg => Node_any x v1 w (by omega) (by omega) hg
            have HN2 : Hid (∀ w, TabAt w → Calls Tryd.prog 17 #[.string x, .string v2] w fun e w' => e = .returned (.string (nodeB x v2)) ∧ Below w.heap.size w w') :=
              Lib.hid fun w hg => Node_any x v2 w (by omega) (by omega) hg
            have hlt1 : ((half n : Nat) : Int) < m := by omega
            have hlt2 : (m : Int) < n := by omega
            generalize half n = h at *
            have HG := Lib.hid hG
            clear hv ih hps hp1 hp2 hk h1 ha hih hx hG hlt hmn hwh hmn2 hv1 hv2 hq hc hqc
            rcases hpick.out with rfl | hne3
            all_goals
              clear hpick
              go_enter Tryd.func52, Tryd.ntmps52
              go_wp2_with fail
              refine HCU.out.mono ?_; rintro e w' ⟨rfl, d, rfl⟩
              go_wp2_with fail
              refine (HSP.out _).mono ?_; rintro e w' ⟨rfl, rfl⟩
              go_wp2_with fail
              refine (HI.out _ (HG.out.drewN d)).mono ?_; rintro e w1 ⟨rfl, hB⟩
              have HG1 := Lib.hid ((HG.out.drewN d).below hB)
              go_wp2_with fail
              refine (HN1.out _ HG1.out.2).mono ?_; rintro e w2 ⟨rfl, hB2⟩
              have HG2 := Lib.hid (HG1.out.below hB2)
              go_wp2_with fail
              refine (HN2.out _ HG2.out.2).mono ?_; rintro e w3 ⟨rfl, hB3⟩
              go_wp2_with fail
              go_ret3
              exact ⟨rfl, belowStep (belowStep ((below_drewN (Below.refl w.heap.size w) d).trans hB) hB2) hB3⟩
          · have hv := twoS_left (ps := fun j => ps (o + j)) (old := old) (k := q) (whole := whole) hlt h1 hih
            have hvs := twoS_size (ps := fun j => ps (o + j)) (fun j => hps (o + j)) ho (half n) m (half n) q whole (Nat.le_refl _)
            have HI : Hid (∀ w, Good b ps o (o + (q + 1)) w → Calls Tryd.prog 52 #[.string old, .int .i64 m, .int .i64 (half n : Nat), .slice (some ⟨b, o, none⟩) q c, .bool whole] w fun e w' => e = .returned (.tuple #[.string (twoS (fun j => ps (o + j)) old m (half n) q whole).1, .string (twoS (fun j => ps (o + j)) old m (half n) q whole).2.1, .bool (twoS (fun j => ps (o + j)) old m (half n) q whole).2.2]) ∧ Below w.heap.size w w') :=
              Lib.hid fun w hg => ih m (half n) q c whole _ w (by omega) h1 hih (by omega) (by omega) (by omega) (fun _ => rfl) ⟨fun j h1 h2 => hg.1 j h1 (by omega), hg.2⟩
            rw [hv]
            generalize twoS (fun j => ps (o + j)) old m (half n) q whole = v at *
            obtain ⟨v1, v2, v3⟩ := v
            simp only at hvs HI ⊢
            obtain ⟨hv1, hv2⟩ := hvs
            generalize ps (o + q) = x at *
            have HN : Hid (∀ w, TabAt w → Calls Tryd.prog 17 #[.string v2, .string x] w fun e w' => e = .returned (.string (nodeB v2 x)) ∧ Below w.heap.size w w') :=
              Lib.hid fun w hg => Node_any v2 x w (by omega) (by omega) hg
            have hlt1 : (m : Int) ≤ (half n : Nat) := by omega
            have hlt2 : (m : Int) < n := by omega
            generalize half n = h at *
            have HG := Lib.hid hG
            clear hv ih hps hp1 hp2 hk h1 ha hih hx hG hlt hmn hwh hmn2 hv1 hv2 hq hc hqc
            rcases hpick.out with rfl | hne3
            all_goals
              clear hpick
              go_enter Tryd.func52, Tryd.ntmps52
              go_wp2_with fail
              refine HCU.out.mono ?_; rintro e w' ⟨rfl, d, rfl⟩
              go_wp2_with fail
              refine (HSP.out _).mono ?_; rintro e w' ⟨rfl, rfl⟩
              go_wp2_with fail
              refine (HI.out _ (HG.out.drewN d)).mono ?_; rintro e w1 ⟨rfl, hB⟩
              have HG1 := Lib.hid ((HG.out.drewN d).below hB)
              go_wp2_with fail
              refine (HN.out _ HG1.out.2).mono ?_; rintro e w2 ⟨rfl, hB2⟩
              go_wp2_with fail
              go_ret3
              exact ⟨rfl, belowStep ((below_drewN (Below.refl w.heap.size w) d).trans hB) hB2⟩
end Go.Proofs.YtdhpighnkoamiaaDoor
