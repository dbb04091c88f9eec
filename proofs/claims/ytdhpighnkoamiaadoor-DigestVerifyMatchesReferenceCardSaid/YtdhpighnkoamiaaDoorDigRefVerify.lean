/- The contracts of the reference's Digests, value, both, Verify and VerifyExtension. -/
import Derived.BigQuiet
import Derived.Deep.QuietTactic
import Derived.Deep.RegionHeld3
import Derived.Test.YtdhpighnkoamiaaDoorDigRefApi
namespace Go.Proofs.YtdhpighnkoamiaaDoor
open Go.RowKit Putlog

theorem digB_false {f : Nat → ByteArray} {k : Nat} (hf : (f k).size ≠ 32) : ∀ {n}, k < n → digB f 0 n = false
  | 0, h => by omega
  | n + 1, h => by
    rw [digB, Nat.zero_add]
    rcases Nat.lt_or_ge k n with h1 | h1
    · rw [digB_false hf h1]; rfl
    · obtain rfl : k = n := by omega
      simp [hf]
theorem digB_next {f : Nat → ByteArray} {k : Nat} (h : digB f 0 k = true) (hf : (f k).size = 32) : digB f 0 (k + 1) = true := by
  rw [digB, Nat.zero_add, h, hf]; rfl

set_option maxRecDepth 100000 in
set_option maxHeartbeats 2000000 in
theorem rdigests_any (f : Nat → ByteArray) (hf : ∀ j, (f j).size ≤ 1000) (n c : Nat) (a : Option Addr) (w : World) (hn : (n : Int) ≤ 1048576) (hs : SliceAt w a f n) :
    Calls Tryd.prog 50 #[.slice a n c] w fun e w' => e = .returned (.bool (digB f 0 n)) ∧ ∃ q, w' = w.drewN q := by
  have HS := Lib.hid hs
  have HF := Lib.hid hf
  clear hs hf
  go_enter Tryd.func50, Tryd.ntmps50
  go_wp2_with fail
  go_loopw [3] (fun i wr => ∃ k : Nat, k ≤ n ∧ i = .int .i64 k ∧ digB f 0 k = true ∧ ∃ q, wr = w.drewN q) (fun i _ => n - (intOf i).toNat)
  case atStart => exact ⟨0, by omega, rfl, rfl, 0, rfl⟩
  case round =>
    obtain ⟨k, hk, rfl, hd, q, hw⟩ := hrel
    by_cases hlt : k < n
    · have hlt' : (k : Int) < n := by omega
      obtain ⟨b, o, rfl, hcells⟩ := HS.out (by omega)
      have hc : wr.cell? ⟨b, o + k, none⟩ = some (.string (f k)) := by rw [hw]; exact hcells k hlt
      have hfk := HF.out k
      by_cases h32 : (f k).size = 32
      · have HN := Lib.hid (digB_next hd h32)
        have h32' : (((f k).size : Int) != 32) = false := by rw [h32]; rfl
        have HW := Lib.hid hw
        generalize f k = x at *
        clear hcells hd hw hlt h32
        go_wp2_with fail
        go_roundw
        case rel => exact ⟨k + 1, by omega, by go_num, HN.out, q, HW.out⟩
        case measure => simp [intOf]; omega
      · have HN := Lib.hid (digB_false h32 hlt)
        have h32' : (((f k).size : Int) != 32) = true := by simp [bne]; omega
        have HW := Lib.hid hw
        generalize f k = x at *
        clear hcells hd hw hlt h32
        go_wp2_with fail
        go_ret
        exact ⟨by rw [HN.out]; rfl, q, HW.out⟩
    · obtain rfl : k = n := by omega
      have HD := Lib.hid hd
      have HW := Lib.hid hw
      have hge : (k : Int) ≤ k := by omega
      clear hlt hd hw
      go_wp2_with fail
      go_ret
      exact ⟨by rw [HD.out]; rfl, q, HW.out⟩

set_option maxRecDepth 100000 in
set_option maxHeartbeats 4000000 in
theorem rvalue_all (ps : Nat → ByteArray) (s : ByteArray) (hps : ∀ j, (ps j).size ≤ 1000) (hs : s.size ≤ 1000) (k : Nat) :
    ∀ (n i m c : Nat) (a : Option Addr) (w : World), n ≤ k → 1 ≤ n → (n : Int) ≤ 9223372036854775807 → i < n → m ≤ c → (m : Int) ≤ 1048576 → SliceAt w a ps m →
    Calls Tryd.prog 51 #[.int .i64 n, .int .i64 i, .string s, .slice a m c] w fun e w' => e = .returned (.tuple #[.string (valueS ps s n i m).1, .bool (valueS ps s n i m).2]) ∧ Below w.heap.size w w' := by
  induction k with
  | zero =>
    intro n i m c a w hk h1
    omega
  | succ k ih =>
    intro n i m c a w hk h1 hn hi hmc hc hS
    rcases Nat.lt_or_ge n 2 with h2 | h2
    · obtain rfl : n = 1 := by omega
      have HS := Lib.hid (rleaf_any s w (by omega))
      have hv := valueS_one (ps := ps) (s := s) (i := i) (m := m) (Nat.le_refl 1)
      rw [hv]
      generalize leafB s = r at *
      have hb : decide (((m : Int) - 1) < 0) = (m == 0) := by
        rcases Nat.eq_zero_or_pos m with rfl | h
        · rfl
        · have : (m == 0) = false := by simp; omega
          rw [this]; simp; omega
      have HB := Lib.hid hb
      clear hv ih hS hb
      go_enter Tryd.func51, Tryd.ntmps51
      go_wp2_with fail
      refine HS.out.mono ?_; rintro e w' ⟨rfl, hB⟩
      go_wp2_with fail
      go_ret2
      exact ⟨by rw [← HB.out]; rfl, hB⟩
    · have hn1 : ((n : Int) == 1) = false := by simp; omega
      rcases Nat.eq_zero_or_pos m with rfl | hm
      · rw [valueS_nil h2]
        clear ih hS
        go_enter Tryd.func51, Tryd.ntmps51
        go_wp2_with fail
        go_ret2
        exact ⟨rfl, Below.refl _ _⟩
      · obtain ⟨m, rfl⟩ : ∃ q, m = q + 1 := ⟨m - 1, by omega⟩
        obtain ⟨b, o, rfl, hcells⟩ := hS (by omega)
        have hcell := hcells m (by omega)
        have hmb : (m : Int) ≤ 1048575 := by omega
        have hmn : ¬ ((m : Int) < 0) := by omega
        have hmc2 : (m : Int) ≤ c := by omega
        have hp1 := half_pos n
        have hp2 := half_le h2
        have HSP := Lib.hid (fun w => rleft_any n w h2 hn)
        have hx := hps m
        have HSL := Lib.hid (hS.upto (k := m) (by omega))
        rcases Nat.lt_or_ge i (half n) with hih | hih
        · have hv := valueS_left (ps := ps) (s := s) (m := m) h2 hih
          have hvs := valueS_size ps s (half n) i m
          have HI := Lib.hid (ih (half n) i m c _ w (by omega) hp1 (by omega) hih (by omega) (by omega) HSL.out)
          rw [hv]
          generalize valueS ps s (half n) i m = v at *
          obtain ⟨v1, v2⟩ := v
          simp only at hvs HI ⊢
          generalize ps m = x at *
          have HN := Lib.hid (fun w => rnode_any v1 x w (by omega) (by omega))
          have hlt : (i : Int) < (half n : Nat) := by omega
          generalize half n = h at *
          have HC := Lib.hid hcell
          clear hv ih hps hp1 hp2 hk h1 hn hi hih hvs hx h2 hS hm hc hmc hcells hcell
          go_enter Tryd.func51, Tryd.ntmps51
          go_wp2_with fail
          refine (HSP.out _).mono ?_; rintro e w' ⟨rfl, rfl⟩
          go_wp2_with fail
          refine HI.out.mono ?_; rintro e w1 ⟨rfl, hB⟩
          have hcell := keptBelow hB HC.out
          go_wp2_with fail
          refine (HN.out _).mono ?_; rintro e w2 ⟨rfl, hB2⟩
          go_wp2_with fail
          go_ret2
          exact ⟨rfl, belowVia hB2 hB⟩
        · have hv := valueS_right (ps := ps) (s := s) (m := m) h2 hih
          have hvs := valueS_size ps s (n - half n) (i - half n) m
          have HI : Hid (Calls Tryd.prog 51 #[.int .i64 ((n : Int) - (half n : Nat)), .int .i64 ((i : Int) - (half n : Nat)), .string s, .slice (some ⟨b, o, none⟩) m c] w fun e w' => e = .returned (.tuple #[.string (valueS ps s (n - half n) (i - half n) m).1, .bool (valueS ps s (n - half n) (i - half n) m).2]) ∧ Below w.heap.size w w') := by
            have := ih (n - half n) (i - half n) m c _ w (by omega) (by omega) (by omega) (by omega) (by omega) (by omega) HSL.out
            rwa [show ((n - half n : Nat) : Int) = (n : Int) - (half n : Nat) by omega, show ((i - half n : Nat) : Int) = (i : Int) - (half n : Nat) by omega] at this
          rw [hv]
          generalize valueS ps s (n - half n) (i - half n) m = v at *
          obtain ⟨v1, v2⟩ := v
          simp only at hvs HI ⊢
          generalize ps m = x at *
          have HN := Lib.hid (fun w => rnode_any x v1 w (by omega) (by omega))
          have hlt : ((half n : Nat) : Int) ≤ i := by omega
          have hin : (i : Int) < n := by omega
          generalize half n = h at *
          have HC := Lib.hid hcell
          clear hv ih hps hp1 hp2 hk h1 hi hih hvs hx h2 hS hm hc hmc hcells hcell
          go_enter Tryd.func51, Tryd.ntmps51
          go_wp2_with fail
          refine (HSP.out _).mono ?_; rintro e w' ⟨rfl, rfl⟩
          go_wp2_with fail
          refine HI.out.mono ?_; rintro e w1 ⟨rfl, hB⟩
          have hcell := keptBelow hB HC.out
          go_wp2_with fail
          refine (HN.out _).mono ?_; rintro e w2 ⟨rfl, hB2⟩
          go_wp2_with fail
          go_ret2
          exact ⟨rfl, belowVia hB2 hB⟩
theorem hn32 (a b : ByteArray) : (nodeB a b).size ≤ 1000 := by have : (nodeB a b).size = 32 := shaB_size _; omega

set_option maxRecDepth 100000 in
set_option maxHeartbeats 4000000 in
theorem rboth_all (ps : Nat → ByteArray) (old : ByteArray) (hps : ∀ j, (ps j).size ≤ 1000) (ho : old.size ≤ 1000) (k : Nat) :
    ∀ (m n q c : Nat) (whole : Bool) (a : Option Addr) (w : World), n ≤ k → 1 ≤ m → m ≤ n → (n : Int) ≤ 9223372036854775807 → q ≤ c → (q : Int) ≤ 1048576 → SliceAt w a ps q →
    Calls Tryd.prog 53 #[.string old, .int .i64 m, .int .i64 n, .slice a q c, .bool whole] w fun e w' => ∃ x y : ByteArray, e = .returned (.tuple #[.string x, .string y, .bool (twoS ps old m n q whole).2.2]) ∧
      ((twoS ps old m n q whole).2.2 = true → x = (twoS ps old m n q whole).1 ∧ y = (twoS ps old m n q whole).2.1) ∧ x.size ≤ 1000 ∧ y.size ≤ 1000 ∧ Below w.heap.size w w' := by
  induction k with
  | zero =>
    intro m n q c whole a w hk h1
    omega
  | succ k ih =>
    intro m n q c whole a w hk h1 hmn hn hqc hc hS
    by_cases hmn2 : m = n
    · subst hmn2
      cases whole with
      | true =>
        rw [twoS_whole]
        have hb : decide (((q : Int) - 1) < 0) = (q == 0) := by
          rcases Nat.eq_zero_or_pos q with rfl | h
          · rfl
          · have : (q == 0) = false := by simp; omega
            rw [this]; simp; omega
        have HB := Lib.hid hb
        clear ih hS hb
        go_enter Tryd.func53, Tryd.ntmps53
        go_wp2_with fail
        go_ret3
        exact ⟨old, old, by rw [← HB.out]; rfl, fun _ => ⟨rfl, rfl⟩, ho, ho, Below.refl _ _⟩
      | false =>
        rcases Nat.eq_zero_or_pos q with rfl | hq
        · rw [twoS_nil (by simp)]
          clear ih hS
          go_enter Tryd.func53, Tryd.ntmps53
          go_wp2_with fail
          go_ret3
          exact ⟨⟨#[]⟩, ⟨#[]⟩, rfl, fun h => (by cases h), by decide, by decide, Below.refl _ _⟩
        · obtain ⟨q, rfl⟩ : ∃ p, q = p + 1 := ⟨q - 1, by omega⟩
          rw [twoS_all]
          obtain ⟨b, o, rfl, hcells⟩ := hS (by omega)
          by_cases hq0 : q = 0
          · subst hq0
            have hcell := hcells 0 (by omega)
            rw [Nat.add_zero] at hcell
            have hx := hps 0
            generalize ps 0 = x at *
            clear ih hS hcells
            go_enter Tryd.func53, Tryd.ntmps53
            go_wp2_with fail
            go_quiet (fail)
            go_wp2_with fail
            go_ret3
            exact ⟨x, x, rfl, fun _ => ⟨rfl, rfl⟩, hx, hx, below_drewN (Below.refl _ _) _⟩
          · have hqb : (q == 0) = false := by simp; omega
            have hq1 : ((q : Int) != 0) = true := by simp [bne]; omega
            simp only [hqb]
            have hmb : (q : Int) ≤ 1048575 := by omega
            clear ih hS hcells
            go_enter Tryd.func53, Tryd.ntmps53
            go_wp2_with fail
            go_ret3
            exact ⟨⟨#[]⟩, ⟨#[]⟩, rfl, fun h => (by cases h), by decide, by decide, Below.refl _ _⟩
    · have hlt : m < n := by omega
      have hneq : ((m : Int) == n) = false := by simp; omega
      rcases Nat.eq_zero_or_pos q with rfl | hq
      · rw [twoS_nil (by simp [hmn2])]
        clear ih hS
        go_enter Tryd.func53, Tryd.ntmps53
        go_wp2_with fail
        go_ret3
        exact ⟨⟨#[]⟩, ⟨#[]⟩, rfl, fun h => (by cases h), by decide, by decide, Below.refl _ _⟩
      · obtain ⟨q, rfl⟩ : ∃ p, q = p + 1 := ⟨q - 1, by omega⟩
        obtain ⟨b, o, rfl, hcells⟩ := hS (by omega)
        have hcell := hcells q (by omega)
        have hx := hps q
        have hmb : (q : Int) ≤ 1048575 := by omega
        have hnl : ¬ ((q : Int) < 0) := by omega
        have hqc2 : (q : Int) ≤ c := by omega
        have hp1 := half_pos n
        have hp2 := half_le (n := n) (by omega)
        have HSP := Lib.hid (fun w => rleft_any n w (by omega) hn)
        have HSL := Lib.hid (hS.upto (k := q) (by omega))
        rcases Nat.lt_or_ge (half n) m with h5 | h5
        ·
          have hv := twoS_right (ps := ps) (old := old) (k := q) (whole := whole) hlt h5
          have HI : Hid (Calls Tryd.prog 53 #[.string old, .int .i64 ((m : Int) - (half n : Nat)), .int .i64 ((n : Int) - (half n : Nat)), .slice (some ⟨b, o, none⟩) q c, .bool false] w fun e w' => ∃ x y : ByteArray, e = .returned (.tuple #[.string x, .string y, .bool (twoS ps old (m - half n) (n - half n) q false).2.2]) ∧ ((twoS ps old (m - half n) (n - half n) q false).2.2 = true → x = (twoS ps old (m - half n) (n - half n) q false).1 ∧ y = (twoS ps old (m - half n) (n - half n) q false).2.1) ∧ x.size ≤ 1000 ∧ y.size ≤ 1000 ∧ Below w.heap.size w w') := by
            have := ih (m - half n) (n - half n) q c false _ w (by omega) (by omega) (by omega) (by omega) (by omega) (by omega) HSL.out
            rwa [show ((n - half n : Nat) : Int) = (n : Int) - (half n : Nat) by omega, show ((m - half n : Nat) : Int) = (m : Int) - (half n : Nat) by omega] at this
          rw [hv]
          generalize twoS ps old (m - half n) (n - half n) q false = v at *
          obtain ⟨v1, v2, v3⟩ := v
          simp only at HI ⊢
          generalize ps q = x at *
          have hlt1 : ((half n : Nat) : Int) < m := by omega
          have hle1 : ¬ m ≤ half n := by omega
          generalize half n = h at *
          have HC := Lib.hid hcell
          clear hv ih hps hp1 hp2 hk h5 hS hcells hcell ho hc hqc hq
          have hq0 : (0 : Int) ≤ q := by omega
          have hq1 : (q : Int) < q + 1 := by omega
          go_enter Tryd.func53, Tryd.ntmps53
          go_wp2_with fail
          refine (HSP.out _).mono ?_; rintro e w' ⟨rfl, rfl⟩
          go_wp2_with fail
          refine HI.out.mono ?_; rintro e w1 ⟨z, y, rfl, hzy, hz1, hy1, hB⟩
          have hcell := keptBelow hB HC.out
          have HZY := Lib.hid hzy
          clear hzy
          go_wp2_with fail
          have HNZ := Lib.hid (fun w => rnode_any x z w (by omega) (by omega))
          have HNY := Lib.hid (fun w => rnode_any x y w (by omega) (by omega))
          go_region_held3 (fun w' => w'.cell? ⟨b, o + q, none⟩ = some (.string x)) (first | exact hcell | exact keptBelow hB2 hcell | exact keptBelow hB3 (keptBelow hB2 hcell)) (first
            | (go_at_call 18; (with_reducible refine (HNZ.out _).mono ?_); rintro e w2 ⟨rfl, hB2⟩)
            | (go_at_call 18; (with_reducible refine (HNY.out _).mono ?_); rintro e w3 ⟨rfl, hB3⟩))
          go_wp2_with fail
          go_ret3
          exact ⟨nodeB x z, nodeB x y, rfl, fun h => by obtain ⟨e1, e2⟩ := HZY.out h; rw [e1, e2]; exact ⟨rfl, rfl⟩, hn32 _ _, hn32 _ _, belowVia hB3 (belowVia hB2 ⟨hB.os, hB.tape, hB.output, hB.size, hB.block⟩)⟩
        ·
          have hv := twoS_left (ps := ps) (old := old) (k := q) (whole := whole) hlt h1 h5
          have HI := Lib.hid (ih m (half n) q c whole _ w (by omega) h1 h5 (by omega) (by omega) (by omega) HSL.out)
          rw [hv]
          generalize twoS ps old m (half n) q whole = v at *
          obtain ⟨v1, v2, v3⟩ := v
          simp only at HI ⊢
          generalize ps q = x at *
          have hlt1 : (m : Int) ≤ (half n : Nat) := by omega
          have hle1 : m ≤ half n := h5
          generalize half n = h at *
          have HC := Lib.hid hcell
          clear hv ih hps hp1 hp2 hk h5 hS hcells hcell ho hc hqc hq
          have hq0 : (0 : Int) ≤ q := by omega
          have hq1 : (q : Int) < q + 1 := by omega
          go_enter Tryd.func53, Tryd.ntmps53
          go_wp2_with fail
          refine (HSP.out _).mono ?_; rintro e w' ⟨rfl, rfl⟩
          go_wp2_with fail
          refine HI.out.mono ?_; rintro e w1 ⟨z, y, rfl, hzy, hz1, hy1, hB⟩
          have hcell := keptBelow hB HC.out
          have HZY := Lib.hid hzy
          clear hzy
          go_wp2_with fail
          refine (rnode_any y x _ (by omega) (by omega)).mono ?_; rintro e w2 ⟨rfl, hB2⟩
          go_wp2_with fail
          go_ret3
          exact ⟨z, nodeB y x, rfl, fun h => by obtain ⟨e1, e2⟩ := HZY.out h; rw [e1, e2]; exact ⟨rfl, rfl⟩, by omega, hn32 _ _, belowVia hB2 hB⟩

set_option maxRecDepth 100000 in
set_option maxHeartbeats 2000000 in
theorem rVerify_any (f : Nat → ByteArray) (hf : ∀ j, (f j).size ≤ 1000) (root s : ByteArray) (hss : s.size ≤ 1000) (n i : Int) (m c : Nat) (a : Option Addr) (w : World)
    (hn2 : n ≤ 9223372036854775807) (hmc : m ≤ c) (hm : (m : Int) ≤ 1048576) (hs : SliceAt w a f m) :
    Calls Tryd.prog 30 #[.string root, .int .i64 n, .int .i64 i, .string s, .slice a m c] w fun e w' => e = .returned (.bool (verB f root s n i m)) ∧ Below w.heap.size w w' := by
  have HD := Lib.hid (rdigests_any f hf m c a w hm hs)
  have HBW : Hid (∀ q, Below w.heap.size w (w.drewN q)) := Lib.hid (fun q => below_drewN (Below.refl _ _) q)
  by_cases h0 : i < 0
  · have HV : Hid (verB f root s n i m = false) := by show verB f root s n i m = false; rw [verB, if_neg (by omega)]
    generalize digB f 0 m = dg at *
    clear hs hmc hm hf
    go_enter Tryd.func30, Tryd.ntmps30
    go_wp2_with fail
    refine HD.out.mono ?_; rintro e w' ⟨rfl, q, rfl⟩
    go_wp2_with fail
    go_ret
    exact ⟨by rw [HV.out]; rfl, HBW.out q⟩
  by_cases h1 : n ≤ i
  · have HV : Hid (verB f root s n i m = false) := by show verB f root s n i m = false; rw [verB, if_neg (by omega)]
    have hd : decide (i < 0) = false := by simpa using h0
    generalize digB f 0 m = dg at *
    clear hs hmc hm hf
    go_enter Tryd.func30, Tryd.ntmps30
    go_wp2_with fail
    refine HD.out.mono ?_; rintro e w' ⟨rfl, q, rfl⟩
    go_wp2_with fail
    go_ret
    exact ⟨by rw [HV.out]; rfl, HBW.out q⟩
  have hd : decide (i < 0) = false := by simpa using h0
  have hd2 : decide (n ≤ i) = false := by simpa using h1
  cases hdig : digB f 0 m with
  | false =>
    have HV : Hid (verB f root s n i m = false) := by show verB f root s n i m = false; rw [verB, if_neg (by rw [hdig]; simp)]
    rw [hdig] at HD
    clear hs hmc hm hf hdig
    go_enter Tryd.func30, Tryd.ntmps30
    go_wp2_with fail
    refine HD.out.mono ?_; rintro e w' ⟨rfl, q, rfl⟩
    go_wp2_with fail
    go_ret
    exact ⟨by rw [HV.out]; rfl, HBW.out q⟩
  | true =>
    obtain ⟨k, rfl⟩ := Int.eq_ofNat_of_zero_le (by omega : 0 ≤ i)
    obtain ⟨p, rfl⟩ := Int.eq_ofNat_of_zero_le (by omega : 0 ≤ n)
    have hv : verB f root s p k m = ((valueS f s p k m).2 && ((valueS f s p k m).1.toList == root.toList)) := by rw [verB, if_pos ⟨by omega, by omega, hdig⟩, Int.toNat_natCast, Int.toNat_natCast]
    have HVO := Lib.hid (fun q => rvalue_all f s hf hss p p k m c a (w.drewN q) (Nat.le_refl _) (by omega) hn2 (by omega) hmc hm hs)
    rw [hdig] at HD
    generalize valueS f s p k m = v at *
    obtain ⟨v1, v2⟩ := v
    simp only at hv HVO
    have HV := Lib.hid hv
    clear hs hmc hm hf hdig hv
    cases v2 with
    | false =>
      go_enter Tryd.func30, Tryd.ntmps30
      go_wp2_with fail
      refine HD.out.mono ?_; rintro e w' ⟨rfl, q, rfl⟩
      go_wp2_with fail
      refine (HVO.out q).mono ?_; rintro e w1 ⟨rfl, hB⟩
      go_wp2_with fail
      go_ret
      exact ⟨by rw [HV.out]; rfl, belowVia hB (HBW.out q)⟩
    | true =>
      go_enter Tryd.func30, Tryd.ntmps30
      go_wp2_with fail
      refine HD.out.mono ?_; rintro e w' ⟨rfl, q, rfl⟩
      go_wp2_with fail
      refine (HVO.out q).mono ?_; rintro e w1 ⟨rfl, hB⟩
      go_wp2_with fail
      go_ret
      exact ⟨by rw [HV.out]; rfl, belowVia hB (HBW.out q)⟩

set_option maxRecDepth 100000 in
set_option maxHeartbeats 4000000 in
theorem rVerifyExtension_any (f : Nat → ByteArray) (hf : ∀ j, (f j).size ≤ 1000) (old root : ByteArray) (m n : Int) (q c : Nat) (a : Option Addr) (w : World)
    (hn2 : n ≤ 9223372036854775807) (hmc : q ≤ c) (hm : (q : Int) ≤ 1048576) (hs : SliceAt w a f q) :
    Calls Tryd.prog 32 #[.string old, .int .i64 m, .string root, .int .i64 n, .slice a q c] w fun e w' => e = .returned (.bool (extB f old root m n q)) ∧ Below w.heap.size w w' := by
  have HD := Lib.hid (rdigests_any f hf q c a w hm hs)
  have HBW : Hid (∀ q, Below w.heap.size w (w.drewN q)) := Lib.hid (fun q => below_drewN (Below.refl _ _) q)
  by_cases h0 : m < 0
  · have HV : Hid (extB f old root m n q = false) := by show extB f old root m n q = false; rw [extB, if_neg (by omega)]
    generalize digB f 0 q = dg at *
    clear hs hmc hm hf
    go_enter Tryd.func32, Tryd.ntmps32
    go_wp2_with fail
    refine HD.out.mono ?_; rintro e w' ⟨rfl, q1, rfl⟩
    go_wp2_with fail
    go_ret
    exact ⟨by rw [HV.out]; rfl, HBW.out q1⟩
  by_cases h1 : n < m
  · have HV : Hid (extB f old root m n q = false) := by show extB f old root m n q = false; rw [extB, if_neg (by omega)]
    have hd : decide (m < 0) = false := by simpa using h0
    generalize digB f 0 q = dg at *
    clear hs hmc hm hf
    go_enter Tryd.func32, Tryd.ntmps32
    go_wp2_with fail
    refine HD.out.mono ?_; rintro e w' ⟨rfl, q1, rfl⟩
    go_wp2_with fail
    go_ret
    exact ⟨by rw [HV.out]; rfl, HBW.out q1⟩
  have hd : decide (m < 0) = false := by simpa using h0
  have hd2 : decide (n < m) = false := by simpa using h1
  cases hdig : digB f 0 q with
  | false =>
    have HV : Hid (extB f old root m n q = false) := by show extB f old root m n q = false; rw [extB, if_neg (by rw [hdig]; simp)]
    rw [hdig] at HD
    clear hs hmc hm hf hdig
    go_enter Tryd.func32, Tryd.ntmps32
    go_wp2_with fail
    refine HD.out.mono ?_; rintro e w' ⟨rfl, q1, rfl⟩
    go_wp2_with fail
    go_ret
    exact ⟨by rw [HV.out]; rfl, HBW.out q1⟩
  | true =>
  rw [hdig] at HD
  by_cases ho : old.size = 32
  · by_cases hr : root.size = 32
    · by_cases hm0 : m = 0
      · subst hm0
        have hv : extB f old root 0 n q = ((q == 0) && (old.toList == (shaB ByteArray.empty).toList)) := by rw [extB, if_pos ⟨by omega, by omega, ho, hr, hdig⟩, if_pos rfl]
        have HR : Hid (∀ w, Calls Tryd.prog 14 #[.string ⟨#[]⟩] w fun e w' => e = .returned (.string (shaB ByteArray.empty)) ∧ Below w.heap.size w w') := Lib.hid (fun w => rsum_any ⟨#[]⟩ w (by decide))
        generalize shaB ByteArray.empty = z at *
        have HV := Lib.hid hv
        have ho1 : ((old.size : Int) != 32) = false := by rw [ho]; rfl
        have hr1 : ((root.size : Int) != 32) = false := by rw [hr]; rfl
        clear hs hmc hf hdig hv
        by_cases hq : q = 0
        · subst hq
          clear hm
          go_enter Tryd.func32, Tryd.ntmps32
          go_wp2_with fail
          refine HD.out.mono ?_; rintro e w' ⟨rfl, q1, rfl⟩
          go_wp2_with fail
          refine (HR.out _).mono ?_; rintro e w1 ⟨rfl, hB⟩
          go_wp2_with fail
          go_ret
          exact ⟨by rw [HV.out]; rfl, belowVia hB (HBW.out q1)⟩
        · have hq1 : ((q : Int) == 0) = false := by simp; omega
          have HQ : Hid ((q == 0) = false) := by show (q == 0) = false; simp; omega
          clear hq hm
          go_enter Tryd.func32, Tryd.ntmps32
          go_wp2_with fail
          refine HD.out.mono ?_; rintro e w' ⟨rfl, q1, rfl⟩
          go_wp2_with fail
          go_ret
          exact ⟨by rw [HV.out, HQ.out]; rfl, HBW.out q1⟩
      · obtain ⟨k, rfl⟩ := Int.eq_ofNat_of_zero_le (by omega : 0 ≤ m)
        obtain ⟨p, rfl⟩ := Int.eq_ofNat_of_zero_le (by omega : 0 ≤ n)
        have hv : extB f old root k p q = ((twoS f old k p q true).2.2 && ((twoS f old k p q true).1.toList == old.toList) && ((twoS f old k p q true).2.1.toList == root.toList)) := by
          rw [extB, if_pos ⟨by omega, by omega, ho, hr, hdig⟩, if_neg hm0, Int.toNat_natCast, Int.toNat_natCast]
        have hk0 : ((k : Int) == 0) = false := by simp; omega
        have ho1 : ((old.size : Int) != 32) = false := by rw [ho]; rfl
        have hr1 : ((root.size : Int) != 32) = false := by rw [hr]; rfl
        by_cases hkp : k = p
        · subst hkp
          rw [twoS_whole] at hv
          simp only [beq_self_eq_true, Bool.and_true] at hv
          have HV := Lib.hid hv
          clear hs hmc hf hdig hv hm0
          by_cases hq : q = 0
          · subst hq
            clear hm
            go_enter Tryd.func32, Tryd.ntmps32
            go_wp2_with fail
            refine HD.out.mono ?_; rintro e w' ⟨rfl, q1, rfl⟩
            go_wp2_with fail
            go_ret
            exact ⟨by rw [HV.out]; rfl, HBW.out q1⟩
          · have hq1 : ((q : Int) == 0) = false := by simp; omega
            have HQ : Hid ((q == 0) = false) := by show (q == 0) = false; simp; omega
            clear hq hm
            go_enter Tryd.func32, Tryd.ntmps32
            go_wp2_with fail
            refine HD.out.mono ?_; rintro e w' ⟨rfl, q1, rfl⟩
            go_wp2_with fail
            go_ret
            exact ⟨by rw [HV.out, HQ.out]; rfl, HBW.out q1⟩
        · have hkp1 : ((k : Int) == p) = false := by simp; omega
          have HTV := Lib.hid (fun q1 => rboth_all f old hf (by omega) p k p q c true a (w.drewN q1) (Nat.le_refl _) (by omega) (by omega) hn2 hmc hm hs)
          generalize twoS f old k p q true = v at *
          obtain ⟨v1, v2, v3⟩ := v
          simp only at hv HTV
          have HV := Lib.hid hv
          clear hs hmc hm hf hdig hv hm0
          cases v3 with
          | false =>
            go_enter Tryd.func32, Tryd.ntmps32
            go_wp2_with fail
            refine HD.out.mono ?_; rintro e w' ⟨rfl, q1, rfl⟩
            go_wp2_with fail
            refine (HTV.out q1).mono ?_; rintro e w1 ⟨x, y, rfl, _, _, _, hB⟩
            go_wp2_with fail
            go_ret
            exact ⟨by rw [HV.out]; rfl, belowVia hB (HBW.out q1)⟩
          | true =>
            cases heq : (v1.toList == old.toList) with
            | false =>
              rw [heq] at HV
              go_enter Tryd.func32, Tryd.ntmps32
              go_wp2_with fail
              refine HD.out.mono ?_; rintro e w' ⟨rfl, q1, rfl⟩
              go_wp2_with fail
              refine (HTV.out q1).mono ?_; rintro e w1 ⟨x, y, rfl, hxy, _, _, hB⟩
              obtain ⟨rfl, rfl⟩ := hxy (by trivial)
              go_wp2_with fail
              go_ret
              exact ⟨by rw [HV.out]; rfl, belowVia hB (HBW.out q1)⟩
            | true =>
              rw [heq] at HV
              go_enter Tryd.func32, Tryd.ntmps32
              go_wp2_with fail
              refine HD.out.mono ?_; rintro e w' ⟨rfl, q1, rfl⟩
              go_wp2_with fail
              refine (HTV.out q1).mono ?_; rintro e w1 ⟨x, y, rfl, hxy, _, _, hB⟩
              obtain ⟨rfl, rfl⟩ := hxy (by trivial)
              go_wp2_with fail
              go_ret
              exact ⟨by rw [HV.out]; rfl, belowVia hB (HBW.out q1)⟩
    · have HV : Hid (extB f old root m n q = false) := by show extB f old root m n q = false; rw [extB, if_neg (by simp [hr])]
      have ho1 : ((old.size : Int) != 32) = false := by rw [ho]; rfl
      have hr1 : ((root.size : Int) != 32) = true := by simp [bne]; omega
      clear hs hmc hm hf hdig
      go_enter Tryd.func32, Tryd.ntmps32
      go_wp2_with fail
      refine HD.out.mono ?_; rintro e w' ⟨rfl, q1, rfl⟩
      go_wp2_with fail
      go_ret
      exact ⟨by rw [HV.out]; rfl, HBW.out q1⟩
  · have HV : Hid (extB f old root m n q = false) := by show extB f old root m n q = false; rw [extB, if_neg (by simp [ho])]
    have ho1 : ((old.size : Int) != 32) = true := by simp [bne]; omega
    clear hs hmc hm hf hdig
    go_enter Tryd.func32, Tryd.ntmps32
    go_wp2_with fail
    refine HD.out.mono ?_; rintro e w' ⟨rfl, q1, rfl⟩
    go_wp2_with fail
    go_ret
    exact ⟨by rw [HV.out]; rfl, HBW.out q1⟩
end Go.Proofs.YtdhpighnkoamiaaDoor
