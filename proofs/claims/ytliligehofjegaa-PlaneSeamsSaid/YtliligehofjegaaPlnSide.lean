/- The contracts of Side and Overlap. -/
import Derived.Test.YtliligehofjegaaPlnArea
namespace Go.Proofs.Ytliligehofjegaa
open Go.RowKit Go.Shelf Pln

/-- What Side returns. -/
def sideV : Option (Nat × Nat) → Value
  | some (n, i) => .tuple #[.int .i64 n, .int .i64 i, .bool true]
  | none => .tuple #[.int .i64 0, .int .i64 0, .bool false]
theorem side_no_l {a b : List Pt} (h : valB a = false) : sideP a b = none := by unfold sideP; rw [if_neg (by rw [h]; simp)]
theorem side_no_r {a b : List Pt} (h : valB b = false) : sideP a b = none := by unfold sideP; rw [if_neg (by rw [h]; simp)]
theorem side_yes {a b : List Pt} (h1 : valB a = true) (h2 : valB b = true) : sideP a b = match sep a b with
    | some i => some (0, i)
    | none => match sep b a with
      | some i => some (1, i)
      | none => none := by
  unfold sideP; rw [if_pos ⟨h1, h2⟩]
  rcases sep a b with _ | i
  · rcases sep b a with _ | i <;> rfl
  · rfl
set_option maxHeartbeats 2000000 in
theorem side_w (a b : List Pt) (ha : Len a) (hb : Len b) (va vb : Value) (w : World) (hva : PtsAt w va a) (hvb : PtsAt w vb b) :
    Calls Try.prog 25 #[va, vb] w fun e w' => e = .returned (sideV (sideP a b)) ∧ Below w.heap.size w w' := by
  have HA := Lib.hid (valid_w a ha va w hva)
  have HB := Lib.hid (fun w1 (h : Below w.heap.size w w1) => valid_w b hb vb w1 (hvb.via h))
  rcases h1 : valB a with _ | _
  · have HR := Lib.hid (side_no_l (b := b) h1)
    rw [h1] at HA
    clear h1
    go_enter Try.func25, Try.ntmps25
    go_wp2_with (go_at_call 18; (with_reducible refine HA.out.mono ?_); rintro e u3 ⟨rfl, hB3⟩)
    go_ret3
    exact ⟨by rw [HR.out]; rfl, hB3⟩
  · rcases h2 : valB b with _ | _
    · have HR := Lib.hid (side_no_r (a := a) h2)
      rw [h1] at HA
      rw [h2] at HB
      clear h1 h2
      go_enter Try.func25, Try.ntmps25
      go_wp2_with fail
      refine HA.out.mono ?_
      rintro e u3 ⟨rfl, hB3⟩
      go_wp2_with fail
      refine (HB.out _ hB3).mono ?_
      rintro e u4 ⟨rfl, hB4⟩
      go_wp2_with fail
      go_ret3
      exact ⟨by rw [HR.out]; rfl, belowStep hB3 hB4⟩
    · have v1 := (valB_iff a).1 h1
      have v2 := (valB_iff b).1 h2
      have HS1 := Lib.hid (fun w1 (h : Below w.heap.size w w1) => separating_w a b va vb w1 (hva.via h) (hvb.via h) (by have := v1.hi; omega) (by have := v2.hi; omega) (val_smls v1) (val_smls v2))
      have HS2 := Lib.hid (fun w1 (h : Below w.heap.size w w1) => separating_w b a vb va w1 (hvb.via h) (hva.via h) (by have := v2.hi; omega) (by have := v1.hi; omega) (val_smls v2) (val_smls v1))
      have HR := Lib.hid (side_yes h1 h2)
      rw [h1] at HA
      rw [h2] at HB
      clear h1 h2 v1 v2 hva hvb
      rcases e1 : sep a b with _ | i
      · rw [e1] at HS1 HR
        clear e1
        rcases e2 : sep b a with _ | i
        · rw [e2] at HS2 HR
          clear e2
          simp only [sepV] at HS1 HS2
          go_enter Try.func25, Try.ntmps25
          go_wp2_with fail
          refine HA.out.mono ?_
          rintro e u3 ⟨rfl, hB3⟩
          go_wp2_with fail
          refine (HB.out _ hB3).mono ?_
          rintro e u4 ⟨rfl, hB4⟩
          have hB4 := belowStep hB3 hB4
          go_wp2_with fail
          refine (HS1.out _ hB4).mono ?_
          rintro e u5 ⟨rfl, hB5⟩
          have hB5 := belowStep hB4 hB5
          go_wp2_with fail
          refine (HS2.out _ hB5).mono ?_
          rintro e u6 ⟨rfl, hB6⟩
          have hB6 := belowStep hB5 hB6
          go_wp2_with fail
          go_ret3
          exact ⟨by rw [HR.out]; rfl, hB6⟩
        · rw [e2] at HS2 HR
          clear e2
          simp only [sepV] at HS1 HS2
          go_enter Try.func25, Try.ntmps25
          go_wp2_with fail
          refine HA.out.mono ?_
          rintro e u3 ⟨rfl, hB3⟩
          go_wp2_with fail
          refine (HB.out _ hB3).mono ?_
          rintro e u4 ⟨rfl, hB4⟩
          have hB4 := belowStep hB3 hB4
          go_wp2_with fail
          refine (HS1.out _ hB4).mono ?_
          rintro e u5 ⟨rfl, hB5⟩
          have hB5 := belowStep hB4 hB5
          go_wp2_with fail
          refine (HS2.out _ hB5).mono ?_
          rintro e u6 ⟨rfl, hB6⟩
          have hB6 := belowStep hB5 hB6
          go_wp2_with fail
          go_ret3
          exact ⟨by rw [HR.out]; rfl, hB6⟩
      · rw [e1] at HS1 HR
        clear e1
        simp only [sepV] at HS1
        go_enter Try.func25, Try.ntmps25
        go_wp2_with fail
        refine HA.out.mono ?_
        rintro e u3 ⟨rfl, hB3⟩
        go_wp2_with fail
        refine (HB.out _ hB3).mono ?_
        rintro e u4 ⟨rfl, hB4⟩
        have hB4 := belowStep hB3 hB4
        go_wp2_with fail
        refine (HS1.out _ hB4).mono ?_
        rintro e u5 ⟨rfl, hB5⟩
        have hB5 := belowStep hB4 hB5
        go_wp2_with fail
        go_ret3
        exact ⟨by rw [HR.out]; rfl, hB5⟩
set_option maxHeartbeats 2000000 in
theorem overlap_w (a b : List Pt) (ha : Len a) (hb : Len b) (va vb : Value) (w : World) (hva : PtsAt w va a) (hvb : PtsAt w vb b) :
    Calls Try.prog 23 #[va, vb] w fun e w' => e = .returned (.bool (overP a b)) ∧ Below w.heap.size w w' := by
  have HS := Lib.hid (side_w a b ha hb va vb w hva hvb)
  have HA := Lib.hid (fun w1 (h : Below w.heap.size w w1) => valid_w a ha va w1 (hva.via h))
  have HB := Lib.hid (fun w1 (h : Below w.heap.size w w1) => valid_w b hb vb w1 (hvb.via h))
  have HO : Hid (overP a b = (valB a && valB b && (sideP a b).isNone)) := Lib.hid rfl
  clear hva hvb
  rcases hs : sideP a b with _ | ⟨n, i⟩
  · rw [hs] at HS HO
    simp only [sideV] at HS
    clear hs
    rcases h1 : valB a with _ | _
    · rw [h1] at HA HO
      clear h1
      go_enter Try.func23, Try.ntmps23
      go_wp2_with fail
      refine HS.out.mono ?_
      rintro e u3 ⟨rfl, hB3⟩
      go_wp2_with fail
      refine (HA.out _ hB3).mono ?_
      rintro e u4 ⟨rfl, hB4⟩
      have hB4 := belowStep hB3 hB4
      go_wp2_with fail
      go_ret
      exact ⟨by rw [HO.out]; rfl, hB4⟩
    · rw [h1] at HA HO
      clear h1
      go_enter Try.func23, Try.ntmps23
      go_wp2_with fail
      refine HS.out.mono ?_
      rintro e u3 ⟨rfl, hB3⟩
      go_wp2_with fail
      refine (HA.out _ hB3).mono ?_
      rintro e u4 ⟨rfl, hB4⟩
      have hB4 := belowStep hB3 hB4
      go_wp2_with fail
      refine (HB.out _ hB4).mono ?_
      rintro e u5 ⟨rfl, hB5⟩
      have hB5 := belowStep hB4 hB5
      go_wp2_with fail
      go_ret
      exact ⟨by rw [HO.out]; cases valB b <;> rfl, hB5⟩
  · rw [hs] at HS HO
    simp only [sideV] at HS
    clear hs
    go_enter Try.func23, Try.ntmps23
    go_wp2_with fail
    refine HS.out.mono ?_
    rintro e u3 ⟨rfl, hB3⟩
    go_wp2_with fail
    go_ret
    exact ⟨by rw [HO.out]; simp, hB3⟩
end Go.Proofs.Ytliligehofjegaa
