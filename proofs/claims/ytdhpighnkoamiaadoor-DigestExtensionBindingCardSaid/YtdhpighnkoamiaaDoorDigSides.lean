/- The contract of sides. -/
import Derived.BigQuiet
import Derived.Deep.QuietTactic
import Derived.Test.YtdhpighnkoamiaaDoorDigWay
namespace Go.Proofs.YtdhpighnkoamiaaDoor
open Go.RowKit Putlog

theorem GivesWay.nil (r : ByteArray) (w : World) : GivesWay [] r w (.returned (.tuple #[.slice none 0 0, .string r])) w :=
  ⟨_, rfl, none, 0, rfl, Nat.le_refl _, by omega, SliceAt.zero _ _ _, Below.refl _ _⟩
theorem GivesWay.nilN (r : ByteArray) (w : World) (n : Nat) : GivesWay [] r w (.returned (.tuple #[.slice none 0 0, .string r])) (w.drewN n) :=
  ⟨_, rfl, none, 0, rfl, Nat.le_refl _, by omega, SliceAt.zero _ _ _, below_drewN (Below.refl _ _) _⟩
theorem sidesS_le (ps : Nat → ByteArray) (old : ByteArray) (hps : ∀ j, (ps j).size ≤ 60) (ho : old.size ≤ 60) (q m n : Nat) (whole : Bool) : (sidesS ps old m n q whole).2.size ≤ 60 := by
  have h32 : ∀ a b : ByteArray, (nodeB a b).size ≤ 60 := fun a b => by have : (nodeB a b).size = 32 := shaB_size _; omega
  rw [sidesS]
  split
  · split
    · exact ho
    · exact hps 0
  · split
    · exact ho
    · split <;> exact h32 _ _

set_option maxRecDepth 100000 in
set_option maxHeartbeats 4000000 in
theorem sides_any (ps : Nat → ByteArray) (hps : ∀ j, (ps j).size ≤ 60) (old : ByteArray) (ho : old.size ≤ 60) (q : Nat) : ∀ (m n c : Nat) (whole : Bool) (a : Option Addr) (w : World),
    1 ≤ m → m ≤ n → (n : Int) ≤ 9223372036854775807 → q ≤ c → (q : Int) ≤ 100 → SliceAt w a ps q → TabAt w →
    Calls Tryd.prog 37 #[.string old, .int .i64 m, .int .i64 n, .slice a q c, .bool whole] w (GivesWay (sidesS ps old m n q whole).1 (sidesS ps old m n q whole).2 w) := by
  obtain ⟨i0, hi0, hz0, hz1, hz2⟩ := info_parts info9
  have HI0 := Lib.hid hi0
  have HZ0 := Lib.hid hz0
  have HZ1 := Lib.hid hz1
  have HZ2 := Lib.hid hz2
  clear hi0 hz0 hz1 hz2
  induction q with
  | zero =>
    intro m n c whole a w h1 hmn hn hmc hm hs hT
    rw [sidesS_end (.inr rfl) (.inr rfl)]
    have HG := Lib.hid (GivesWay.nil old w)
    clear hs hT hps h1 hm
    rcases Nat.lt_or_ge m n with h2 | h2
    · have h3 : (m : Int) < n := by omega
      clear h2
      cases whole
      · go_enter Tryd.func37, Tryd.ntmps37
        go_wp2_with fail
        go_ret2
        exact HG.out
      · go_enter Tryd.func37, Tryd.ntmps37
        go_wp2_with fail
        go_ret2
        exact HG.out
    · have h3 : (n : Int) ≤ m := by omega
      clear h2
      cases whole
      · go_enter Tryd.func37, Tryd.ntmps37
        go_wp2_with fail
        go_ret2
        exact HG.out
      · go_enter Tryd.func37, Tryd.ntmps37
        go_wp2_with fail
        go_ret2
        exact HG.out
  | succ q ih =>
    intro m n c whole a w h1 hmn hn hmc hm hs hT
    have hm1 : ((q : Int) + 1 == 0) = false := by simp; omega
    by_cases hme : m = n
    · have h3 : (n : Int) ≤ m := by omega
      cases whole
      · rw [sidesS_one (by omega) (by omega)]
        obtain ⟨b, o, rfl, hcells⟩ := hs (by omega)
        have hcell := hcells 0 (by omega)
        rw [Nat.add_zero] at hcell
        generalize ps 0 = x at *
        have HG := Lib.hid (fun n => GivesWay.nilN x w n)
        clear hs hT hps h1 hm hcells ih hme
        go_enter Tryd.func37, Tryd.ntmps37
        go_wp2_with fail
        go_quiet (fail)
        go_wp2_with fail
        go_ret2
        exact HG.out _
      · rw [sidesS_end (.inl (by omega)) (.inl rfl)]
        have HG := Lib.hid (GivesWay.nil old w)
        clear hs hT hps h1 hm ih hme
        go_enter Tryd.func37, Tryd.ntmps37
        go_wp2_with fail
        go_ret2
        exact HG.out
    · have hlt' : m < n := by omega
      have hnn : ¬ n ≤ m := by omega
      have h4 : (m : Int) < n := by omega
      obtain ⟨b, o, rfl, hcells⟩ := hs (by omega)
      have hcell := hcells q (by omega)
      have hx := hps q
      have hp1 := half_pos n
      have hp2 := half_lt (n := n) (by omega)
      have HLE := Lib.hid (fun w => left_any n w (by omega) hn)
      rcases Nat.lt_or_ge (half n) m with h5 | h5
      · rw [sidesS_right hlt' h5]
        have HI : Hid (∀ w, SliceAt w (some ⟨b, o, none⟩) ps q → TabAt w → Calls Tryd.prog 37 #[.string old, .int .i64 ((m : Int) - (half n : Nat)), .int .i64 ((n : Int) - (half n : Nat)), .slice (some ⟨b, o, none⟩) q c, .bool false] w (GivesWay (sidesS ps old (m - half n) (n - half n) q false).1 (sidesS ps old (m - half n) (n - half n) q false).2 w)) :=
          Lib.hid fun w h6 h7 => by
            have := ih (m - half n) (n - half n) c false _ w (by omega) (by omega) (by omega) (by omega) (by omega) h6 h7
            rwa [show ((n - half n : Nat) : Int) = (n : Int) - (half n : Nat) by omega, show ((m - half n : Nat) : Int) = (m : Int) - (half n : Nat) by omega] at this
        have hvs := sidesS_le ps old hps ho q (m - half n) (n - half n) false
        have hln := sidesS_len ps old q (m - half n) (n - half n) false (by omega) (by omega)
        generalize sidesS ps old (m - half n) (n - half n) q false = v at *
        obtain ⟨ys, v⟩ := v
        simp only at hvs hln HI ⊢
        have HS := Lib.hid (hs.upto (k := q) (by omega))
        have HT := Lib.hid hT
        generalize ps q = x at *
        have HN : Hid (∀ w, TabAt w → Calls Tryd.prog 17 #[.string x, .string v] w fun e w' => e = .returned (.string (nodeB x v)) ∧ Below w.heap.size w w') :=
          Lib.hid fun w hg => Node_any x v w (by omega) (by omega) hg
        have hlt : ((half n : Nat) : Int) < m := by omega
        have hmh : ¬ m ≤ half n := by omega
        have hin : (m : Int) ≤ n := by omega
        generalize half n = h at *
        have hys : ys.length ≤ 1000 := by omega
        clear hs hT hcells ih hps h1 hmn hp1 hp2 hln ho
        go_enter Tryd.func37, Tryd.ntmps37
        go_wp2_with fail
        refine (HLE.out _).mono ?_; rintro e w' ⟨rfl, rfl⟩
        go_wp2_with fail
        refine (HI.out _ HS.out HT.out).mono ?_; rintro e w1 ⟨u, rfl, a1, c1, rfl, h11, h12, h13, hB⟩
        have HB1 := Lib.hid hB
        have HT1 := Lib.hid (tabVia hB HT.out)
        have HX1 := Lib.hid h13
        clear hB h13 HT HS h12
        go_wp2_with (at_builtin; refine wpList_append_sl rfl _ _ 26 rfl w1.heap.size 9 i0 (.string ⟨#[]⟩) 16 Tryd.underlying26 HI0.out HZ0.out HZ1.out HZ2.out rfl (.slice (some ⟨w1.heap.size, 0, none⟩) 1 1) 1 [.string ((⟨#[1]⟩ : ByteArray) ++ x ++ v)] (by rfl) (lit1_owns w1 _) a1 c1 ys (by rfl) (HX1.out.below ((Below.refl w1.heap.size w1).alloc (Nat.le_refl _) _)) (way_b1 hys) (way_b2 hys) (by simp) ?_; intro v1 w5 hown5 hgrow5)
        refine (HN.out _ (tabVia (belowGrown (v := .slice (some ⟨w1.heap.size, 0, none⟩) 1 1) ((Below.refl w1.heap.size w1).alloc (Nat.le_refl _) _) (lit1_owns w1 _) hgrow5) HT1.out)).mono ?_
        rintro e w6 ⟨rfl, hB⟩
        have HG := Lib.hid (GivesWay.cons (nodeB x v) HB1.out hown5 hgrow5 hB)
        clear hB hown5 hgrow5
        go_wp2_with fail
        go_ret2
        exact HG.out
      · rw [sidesS_left hlt' h1 h5]
        have HI : Hid (∀ w, SliceAt w (some ⟨b, o, none⟩) ps q → TabAt w → Calls Tryd.prog 37 #[.string old, .int .i64 m, .int .i64 (half n : Nat), .slice (some ⟨b, o, none⟩) q c, .bool whole] w (GivesWay (sidesS ps old m (half n) q whole).1 (sidesS ps old m (half n) q whole).2 w)) :=
          Lib.hid fun w h6 h7 => ih m (half n) c whole _ w h1 h5 (by omega) (by omega) (by omega) h6 h7
        have hvs := sidesS_le ps old hps ho q m (half n) whole
        have hln := sidesS_len ps old q m (half n) whole h1 h5
        generalize sidesS ps old m (half n) q whole = v at *
        obtain ⟨ys, v⟩ := v
        simp only at hvs hln HI ⊢
        have HS := Lib.hid (hs.upto (k := q) (by omega))
        have HT := Lib.hid hT
        generalize ps q = x at *
        have HN : Hid (∀ w, TabAt w → Calls Tryd.prog 17 #[.string v, .string x] w fun e w' => e = .returned (.string (nodeB v x)) ∧ Below w.heap.size w w') :=
          Lib.hid fun w hg => Node_any v x w (by omega) (by omega) hg
        have hlt : (m : Int) ≤ (half n : Nat) := by omega
        generalize half n = h at *
        have hys : ys.length ≤ 1000 := by omega
        clear hs hT hcells ih hps h1 hmn hp1 hp2 hln ho
        go_enter Tryd.func37, Tryd.ntmps37
        go_wp2_with fail
        refine (HLE.out _).mono ?_; rintro e w' ⟨rfl, rfl⟩
        go_wp2_with fail
        refine (HI.out _ HS.out HT.out).mono ?_; rintro e w1 ⟨u, rfl, a1, c1, rfl, h11, h12, h13, hB⟩
        have HB1 := Lib.hid hB
        have HT1 := Lib.hid (tabVia hB HT.out)
        have HX1 := Lib.hid h13
        clear hB h13 HT HS h12
        go_wp2_with (at_builtin; refine wpList_append_sl rfl _ _ 26 rfl w1.heap.size 9 i0 (.string ⟨#[]⟩) 16 Tryd.underlying26 HI0.out HZ0.out HZ1.out HZ2.out rfl (.slice (some ⟨w1.heap.size, 0, none⟩) 1 1) 1 [.string ((⟨#[1]⟩ : ByteArray) ++ v ++ x)] (by rfl) (lit1_owns w1 _) a1 c1 ys (by rfl) (HX1.out.below ((Below.refl w1.heap.size w1).alloc (Nat.le_refl _) _)) (way_b1 hys) (way_b2 hys) (by simp) ?_; intro v1 w5 hown5 hgrow5)
        refine (HN.out _ (tabVia (belowGrown (v := .slice (some ⟨w1.heap.size, 0, none⟩) 1 1) ((Below.refl w1.heap.size w1).alloc (Nat.le_refl _) _) (lit1_owns w1 _) hgrow5) HT1.out)).mono ?_
        rintro e w6 ⟨rfl, hB⟩
        have HG := Lib.hid (GivesWay.cons (nodeB v x) HB1.out hown5 hgrow5 hB)
        clear hB hown5 hgrow5
        go_wp2_with fail
        go_ret2
        exact HG.out
end Go.Proofs.YtdhpighnkoamiaaDoor
