/- The contract of way. -/
import Derived.BigQuiet
import Derived.Deep.QuietTactic
import Derived.Test.YtdhpighnkoamiaaDoorDigAppend
import Derived.Test.YtdhpighnkoamiaaDoorDigBindPure
namespace Go.Proofs.YtdhpighnkoamiaaDoor
open Go.RowKit Putlog

/-- A row of strings and a string. -/
def GivesWay (xs : List ByteArray) (v : ByteArray) (w : World) (e : Ending) (w' : World) : Prop := ∃ u, e = .returned (.tuple #[u, .string v]) ∧ GivesSlice xs w u w'
theorem lit1_owns (W : World) (x : ByteArray) : (W.alloc (.cells #[.string x] 9)).ownsRow W.heap.size 9 1 (.slice (some ⟨W.heap.size, 0, none⟩) 1 1) 1 [.string x] :=
  World.ownsRow_lit W #[.string x] 1 (Nat.le_refl _) (by decide) rfl
theorem lit1_slice {W w' : World} (x : ByteArray) (h : Below (W.heap.size + 1) (W.alloc (.cells #[.string x] 9)) w') : SliceAt w' (some ⟨W.heap.size, 0, none⟩) (getB [x]) 1 := by
  have hA := ArrAt.new W #[.string x] 9
  intro _
  refine ⟨_, 0, rfl, fun j hj => ?_⟩
  obtain rfl : j = 0 := by omega
  have := hA.cell (i := 0) (v := .string x) rfl
  exact (h.cell (p := ⟨W.heap.size, 0, none⟩) (by simp)).trans this
theorem GivesWay.one {w w' : World} {x : ByteArray} (r : ByteArray) (hB : Below (w.alloc (.cells #[.string x] 9)).heap.size (w.alloc (.cells #[.string x] 9)) w') :
    GivesWay [x] r w (.returned (.tuple #[.slice (some ⟨w.heap.size, 0, none⟩) 1 1, .string r])) w' :=
  ⟨_, rfl, _, 1, rfl, by simp, by omega, lit1_slice x (by simpa using hB), ((Below.refl w.heap.size w).alloc (Nat.le_refl _) _).trans (hB.mono (by simp))⟩
theorem way_b1 {n : Nat} (h : n ≤ 1000) : 1 + n ≤ maxLen := by unfold maxLen; omega
theorem way_b2 {n : Nat} (h : n ≤ 1000) : (1 + n) * 16 ≤ 140737488355328 := by omega
theorem GivesWay.cons {w w1 w5 w6 : World} {y : ByteArray} {ys : List ByteArray} {v1 : Value} (r : ByteArray) (hB1 : Below w.heap.size w w1)
    (hown : w5.ownsRow w1.heap.size 9 1 v1 (1 + ys.length) ([.string y] ++ ys.map Value.string)) (hg : (w1.alloc (.cells #[.string y] 9)).grownBy w5 (some w1.heap.size)) (hB6 : Below w5.heap.size w5 w6) :
    GivesWay (y :: ys) r w (.returned (.tuple #[v1, .string r])) w6 := by
  have h1 : w5.ownsRow w1.heap.size 9 1 v1 (y :: ys).length ((y :: ys).map Value.string) := by
    rw [List.length_cons, Nat.add_comm]; exact hown
  have h2 : Below w1.heap.size w1 w5 := belowGrown (v := .slice (some ⟨w1.heap.size, 0, none⟩) 1 1) ((Below.refl w1.heap.size w1).alloc (Nat.le_refl _) _) (lit1_owns w1 y) hg
  obtain ⟨a5, c5, rfl, h3, h4, h5, _⟩ := ownsRow_slice h1
  exact ⟨_, rfl, a5, c5, rfl, h3, h4, SliceAt.via hB6 h5, belowVia hB6 (belowVia h2 hB1)⟩

set_option maxRecDepth 100000 in
set_option maxHeartbeats 4000000 in
theorem way_any (ps : Nat → ByteArray) (hps : ∀ j, (ps j).size ≤ 60) (s : ByteArray) (hss : s.size ≤ 60) (m : Nat) : ∀ (n i c : Nat) (a : Option Addr) (w : World),
    (n : Int) ≤ 9223372036854775807 → i < n → m ≤ c → (m : Int) ≤ 100 → SliceAt w a ps m → TabAt w →
    Calls Tryd.prog 34 #[.int .i64 n, .int .i64 i, .string s, .slice a m c] w (GivesWay (wayS ps s n i m).1 (wayS ps s n i m).2 w) := by
  obtain ⟨i0, hi0, hz0, hz1, hz2⟩ := info_parts info9
  have HI0 := Lib.hid hi0
  have HZ0 := Lib.hid hz0
  have HZ1 := Lib.hid hz1
  have HZ2 := Lib.hid hz2
  clear hi0 hz0 hz1 hz2
  induction m with
  | zero =>
    intro n i c a w hn hi hmc hm hs hT
    rw [wayS_nil]
    have HL := Lib.hid (fun w h => Leaf_any s w (by omega) h)
    have hlf : shaB ((⟨#[0]⟩ : ByteArray) ++ s) = leafB s := rfl
    rw [hlf] at HL
    have HT := Lib.hid (tabVia ((Below.refl w.heap.size w).alloc (Nat.le_refl _) (.cells #[.string ((⟨#[0]⟩ : ByteArray) ++ s)] 9)) hT)
    have hss2 : (s.size : Int) ≤ 60 := by omega
    generalize leafB s = r at *
    clear hlf hs hT hps hi hm hss
    by_cases h2 : n ≤ 1
    · have h3 : (n : Int) ≤ 1 := by omega
      clear h2
      go_enter Tryd.func34, Tryd.ntmps34
      go_wp2_with fail
      refine (HL.out _ HT.out).mono ?_
      rintro e w1 ⟨rfl, hB⟩
      have HG := Lib.hid (GivesWay.one r hB)
      clear hB
      go_wp2_with fail
      go_ret2
      exact HG.out
    · have h3 : decide (n ≤ 1) = false := by simpa using h2
      have h4 : (1 : Int) < n := by omega
      clear h2
      go_enter Tryd.func34, Tryd.ntmps34
      go_wp2_with fail
      refine (HL.out _ HT.out).mono ?_
      rintro e w1 ⟨rfl, hB⟩
      have HG := Lib.hid (GivesWay.one r hB)
      clear hB
      go_wp2_with fail
      go_ret2
      exact HG.out
  | succ m ih =>
    intro n i c a w hn hi hmc hm hs hT
    by_cases h2 : n ≤ 1
    · rw [wayS_one h2]
      have HL := Lib.hid (fun w h => Leaf_any s w (by omega) h)
      have hlf : shaB ((⟨#[0]⟩ : ByteArray) ++ s) = leafB s := rfl
      rw [hlf] at HL
      have HT := Lib.hid (tabVia ((Below.refl w.heap.size w).alloc (Nat.le_refl _) (.cells #[.string ((⟨#[0]⟩ : ByteArray) ++ s)] 9)) hT)
      have hss2 : (s.size : Int) ≤ 60 := by omega
      generalize leafB s = r at *
      have h3 : (n : Int) ≤ 1 := by omega
      clear hlf hs hT hps hi hm hss h2 ih
      go_enter Tryd.func34, Tryd.ntmps34
      go_wp2_with fail
      refine (HL.out _ HT.out).mono ?_
      rintro e w1 ⟨rfl, hB⟩
      have HG := Lib.hid (GivesWay.one r hB)
      clear hB
      go_wp2_with fail
      go_ret2
      exact HG.out
    · have h2' : 2 ≤ n := by omega
      have h3 : decide ((n : Int) ≤ 1) = false := by simp; omega
      have hm1 : ((m : Int) + 1 == 0) = false := by simp; omega
      have h4 : (1 : Int) < n := by omega
      obtain ⟨b, o, rfl, hcells⟩ := hs (by omega)
      have hcell := hcells m (by omega)
      have hx := hps m
      have hp1 := half_pos n
      have hp2 := half_lt h2'
      have HLE := Lib.hid (fun w => left_any n w h2' hn)
      rcases Nat.lt_or_ge i (half n) with h5 | h5
      · rw [wayS_left h2' h5]
        have HI : Hid (∀ w, SliceAt w (some ⟨b, o, none⟩) ps m → TabAt w → Calls Tryd.prog 34 #[.int .i64 (half n : Nat), .int .i64 i, .string s, .slice (some ⟨b, o, none⟩) m c] w (GivesWay (wayS ps s (half n) i m).1 (wayS ps s (half n) i m).2 w)) :=
          Lib.hid fun w h1 h2 => ih (half n) i c _ w (by omega) h5 (by omega) (by omega) h1 h2
        have hvs := wayS_size ps s (half n) i m
        have hln := (wayS_len ps s m (half n) i).2
        generalize wayS ps s (half n) i m = v at *
        obtain ⟨ys, v⟩ := v
        simp only at hvs hln HI ⊢
        have HS := Lib.hid (hs.upto (k := m) (by omega))
        have HT := Lib.hid hT
        generalize ps m = x at *
        have HN : Hid (∀ w, TabAt w → Calls Tryd.prog 17 #[.string v, .string x] w fun e w' => e = .returned (.string (nodeB v x)) ∧ Below w.heap.size w w') :=
          Lib.hid fun w hg => Node_any v x w (by omega) (by omega) hg
        have hlt : (i : Int) < (half n : Nat) := by omega
        generalize half n = h at *
        have hys : ys.length ≤ 1000 := by omega
        clear hs hT hcells ih hps h5 h2 h2' hp1 hp2 hi hln
        go_enter Tryd.func34, Tryd.ntmps34
        go_wp2_with fail
        refine (HLE.out _).mono ?_; rintro e w' ⟨rfl, rfl⟩
        go_wp2_with fail
        refine (HI.out _ HS.out HT.out).mono ?_; rintro e w1 ⟨u, rfl, a1, c1, rfl, h11, h12, h13, hB⟩
        have HB1 := Lib.hid hB
        have HT1 := Lib.hid (tabVia hB HT.out)
        have HX1 := Lib.hid h13
        clear hB h13 HT HS h12
        go_wp2_with (at_builtin; refine wpList_append_sl rfl _ _ 26 rfl w1.heap.size 9 i0 (.string ⟨#[]⟩) 16 Tryd.underlying26 HI0.out HZ0.out HZ1.out HZ2.out rfl (.slice (some ⟨w1.heap.size, 0, none⟩) 1 1) 1 [.string ((⟨#[1]⟩ : ByteArray) ++ v ++ x)] (by rfl) (lit1_owns w1 _) a1 c1 ys (by rfl) (HX1.out.below ((Below.refl w1.heap.size w1).alloc (Nat.le_refl _) _)) (way_b1 hys) (way_b2 hys) (by simp) ?_; intro v1 w5 hown5 hgrow5)
        refine (HN.out _ (tabVia (belowGrown (v := .slice (some ⟨w1.heap.size, 0, none⟩) 1 1) ((Below.refl w1.heap.size w1).alloc (Nat.le_refl _) _) (lit1_owns w1 _) hgrow5) HT1.out)).mono ?_
        rintro e w6 ⟨rfl, hB⟩
        have HG := Lib.hid (GivesWay.cons (nodeB v x) HB1.out hown5 hgrow5 hB)
        clear hB hown5 hgrow5
        go_wp2_with fail
        go_ret2
        exact HG.out
      · rw [wayS_right h2' h5]
        have HI : Hid (∀ w, SliceAt w (some ⟨b, o, none⟩) ps m → TabAt w → Calls Tryd.prog 34 #[.int .i64 ((n : Int) - (half n : Nat)), .int .i64 ((i : Int) - (half n : Nat)), .string s, .slice (some ⟨b, o, none⟩) m c] w (GivesWay (wayS ps s (n - half n) (i - half n) m).1 (wayS ps s (n - half n) (i - half n) m).2 w)) :=
          Lib.hid fun w h1 h2 => by
            have := ih (n - half n) (i - half n) c _ w (by omega) (by omega) (by omega) (by omega) h1 h2
            rwa [show ((n - half n : Nat) : Int) = (n : Int) - (half n : Nat) by omega, show ((i - half n : Nat) : Int) = (i : Int) - (half n : Nat) by omega] at this
        have hvs := wayS_size ps s (n - half n) (i - half n) m
        have hln := (wayS_len ps s m (n - half n) (i - half n)).2
        generalize wayS ps s (n - half n) (i - half n) m = v at *
        obtain ⟨ys, v⟩ := v
        simp only at hvs hln HI ⊢
        have HS := Lib.hid (hs.upto (k := m) (by omega))
        have HT := Lib.hid hT
        generalize ps m = x at *
        have HN : Hid (∀ w, TabAt w → Calls Tryd.prog 17 #[.string x, .string v] w fun e w' => e = .returned (.string (nodeB x v)) ∧ Below w.heap.size w w') :=
          Lib.hid fun w hg => Node_any x v w (by omega) (by omega) hg
        have hlt : ((half n : Nat) : Int) ≤ i := by omega
        have hin : (i : Int) < n := by omega
        generalize half n = h at *
        have hys : ys.length ≤ 1000 := by omega
        clear hs hT hcells ih hps h5 h2 h2' hp1 hp2 hi hln
        go_enter Tryd.func34, Tryd.ntmps34
        go_wp2_with fail
        refine (HLE.out _).mono ?_; rintro e w' ⟨rfl, rfl⟩
        go_wp2_with fail
        refine (HI.out _ HS.out HT.out).mono ?_; rintro e w1 ⟨u, rfl, a1, c1, rfl, h11, h12, h13, hB⟩
        have HB1 := Lib.hid hB
        have HT1 := Lib.hid (tabVia hB HT.out)
        have HX1 := Lib.hid h13
        clear hB h13 HT HS h12
        go_wp2_with (at_builtin; refine wpList_append_sl rfl _ _ 26 rfl w1.heap.size 9 i0 (.string ⟨#[]⟩) 16 Tryd.underlying26 HI0.out HZ0.out HZ1.out HZ2.out rfl (.slice (some ⟨w1.heap.size, 0, none⟩) 1 1) 1 [.string ((⟨#[1]⟩ : ByteArray) ++ x ++ v)] (by rfl) (lit1_owns w1 _) a1 c1 ys (by rfl) (HX1.out.below ((Below.refl w1.heap.size w1).alloc (Nat.le_refl _) _)) (way_b1 hys) (way_b2 hys) (by simp) ?_; intro v1 w5 hown5 hgrow5)
        refine (HN.out _ (tabVia (belowGrown (v := .slice (some ⟨w1.heap.size, 0, none⟩) 1 1) ((Below.refl w1.heap.size w1).alloc (Nat.le_refl _) _) (lit1_owns w1 _) hgrow5) HT1.out)).mono ?_
        rintro e w6 ⟨rfl, hB⟩
        have HG := Lib.hid (GivesWay.cons (nodeB x v) HB1.out hown5 hgrow5 hB)
        clear hB hown5 hgrow5
        go_wp2_with fail
        go_ret2
        exact HG.out
end Go.Proofs.YtdhpighnkoamiaaDoor
