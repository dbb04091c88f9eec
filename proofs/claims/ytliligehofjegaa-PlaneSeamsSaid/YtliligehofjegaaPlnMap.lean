/- The contract of onMap. -/
import Derived.Test.YtliligehofjegaaPlnFunc
namespace Go.Proofs.Ytliligehofjegaa
open Go.RowKit Go.Shelf Pln

theorem onB_yes {p : Pt} (h1 : 0 ≤ p.1) (h2 : p.1 ≤ 40) (h3 : 0 ≤ p.2) (h4 : p.2 ≤ 40) : onB p = true := (onB_iff p).2 ⟨h1, h2, h3, h4⟩
theorem onB_no {p : Pt} (h : p.1 < 0 ∨ 40 < p.1 ∨ p.2 < 0 ∨ 40 < p.2) : onB p = false := by
  rcases e : onB p with _ | _
  · rfl
  · have q := (onB_iff p).1 e
    have := q.x0; have := q.x1; have := q.y0; have := q.y1
    omega
theorem onsB_no {l : List Pt} {k n : Nat} (hk : k < n) (h : onB (vx l k) = false) : onsB l n = false := by
  rcases e : onsB l n with _ | _
  · rfl
  · have := (onsB_iff l n).1 e k hk
    rw [(onB_iff _).2 this] at h; exact Bool.noConfusion h
theorem onsB_all {l : List Pt} {n : Nat} (h : ∀ j, j < n → onB (vx l j) = true) : onsB l n = true := (onsB_iff l n).2 fun j hj => (onB_iff _).1 (h j hj)
theorem snoc_all {P : Nat → Prop} {k : Nat} (h : ∀ j, j < k → P j) (hk : P k) : ∀ j, j < k + 1 → P j := fun j hj => by
  by_cases e : j = k
  · rw [e]; exact hk
  · exact h j (by omega)
set_option maxRecDepth 100000 in
set_option maxHeartbeats 4000000 in
theorem onMap_w (l : List Pt) (hl : (l.length : Int) ≤ 4611686018427387904) (v : Value) (w : World) (hv : PtsAt w v l) :
    Calls Try.prog 47 #[v] w fun e w' => e = .returned (.bool (onsB l l.length)) ∧ Below w.heap.size w w' := by
  have HV := Lib.hid hv
  obtain ⟨⟨a, c, rfl, _, _, _⟩, hok⟩ := hv
  obtain ⟨m, hm⟩ : ∃ m, m = l.length := ⟨_, rfl⟩
  have HM := Lib.hid hm
  have hmb : (m : Int) ≤ 4611686018427387904 := by omega
  rw [← hm] at HV ⊢
  clear hm hl
  go_enter Try.func47, Try.ntmps47
  go_wp2_with fail
  go_loopw [7] (fun i wr => ∃ k : Nat, k ≤ m ∧ i = .int .i64 k ∧ (∀ j, j < k → onB (vx l j) = true) ∧ Below w.heap.size w wr) (fun i _ => m - (intOf i).toNat)
  case atStart => exact ⟨0, by omega, rfl, fun j hj => by omega, Below.refl _ _⟩
  case round =>
    obtain ⟨k, hk, rfl, ha, hB⟩ := hrel
    have HA := Lib.hid ha
    clear ha
    by_cases hlt : k < m
    · have hlt' : (k : Int) < m := by omega
      have hkl : k < l.length := by rw [← HM.out]; exact hlt
      have hv2 := HV.out.via hB
      obtain ⟨⟨a', c', he, _, _, hin⟩, _⟩ := hv2
      rw [← HM.out] at he
      cases he
      obtain ⟨g', o, rfl, c0, c1⟩ := hin.get hkl
      obtain ⟨⟨i1, i2⟩, i3, i4⟩ := pt_ok hok hkl
      have HY : Hid (0 ≤ (vx l k).1 → (vx l k).1 ≤ 40 → 0 ≤ (vx l k).2 → (vx l k).2 ≤ 40 → onB (vx l k) = true) := Lib.hid onB_yes
      have HN : Hid ((vx l k).1 < 0 ∨ 40 < (vx l k).1 ∨ (vx l k).2 < 0 ∨ 40 < (vx l k).2 → onsB l m = false) := Lib.hid (fun h => onsB_no hlt (onB_no h))
      have HV2 := Lib.hid hin
      clear hin hok
      have HB2 : Hid (Below w.heap.size w (wr.alloc (.cells #[.int .i64 (vx l k).1, .int .i64 (vx l k).2] 26))) := Lib.hid (belowStep hB (alloc_below _ _))
      generalize hx : (vx l k).1 = x at *
      generalize hy : (vx l k).2 = y at *
      have HH := Lib.hid (And.intro hx hy)
      clear hx hy
      rcases Int.lt_trichotomy y x with hyx | hyx | hyx
      · rcases Int.lt_or_le y 0 with h0 | h0
        · go_wp2_with fail
          go_ret
          exact ⟨ret_bool (HN.out (by omega)).symm, HB2.out⟩
        · rcases Int.lt_or_le 40 x with h4 | h4
          · go_wp2_with fail
            go_ret
            exact ⟨ret_bool (HN.out (by omega)).symm, HB2.out⟩
          · go_wp2_with fail
            go_roundw
            case rel => exact ⟨k + 1, by omega, by go_num, snoc_all HA.out (HY.out (by omega) (by omega) (by omega) (by omega)), HB2.out⟩
            case measure => simp [intOf]; omega
      · obtain rfl : y = x := hyx
        rcases Int.lt_or_le y 0 with h0 | h0
        · go_wp2_with fail
          go_ret
          exact ⟨ret_bool (HN.out (by omega)).symm, HB2.out⟩
        · rcases Int.lt_or_le 40 y with h4 | h4
          · go_wp2_with fail
            go_ret
            exact ⟨ret_bool (HN.out (by omega)).symm, HB2.out⟩
          · go_wp2_with fail
            go_roundw
            case rel => exact ⟨k + 1, by omega, by go_num, snoc_all HA.out (HY.out (by omega) (by omega) (by omega) (by omega)), HB2.out⟩
            case measure => simp [intOf]; omega
      · rcases Int.lt_or_le x 0 with h0 | h0
        · go_wp2_with fail
          go_ret
          exact ⟨ret_bool (HN.out (by omega)).symm, HB2.out⟩
        · rcases Int.lt_or_le 40 y with h4 | h4
          · go_wp2_with fail
            go_ret
            exact ⟨ret_bool (HN.out (by omega)).symm, HB2.out⟩
          · go_wp2_with fail
            go_roundw
            case rel => exact ⟨k + 1, by omega, by go_num, snoc_all HA.out (HY.out (by omega) (by omega) (by omega) (by omega)), HB2.out⟩
            case measure => simp [intOf]; omega
    · obtain rfl : k = m := by omega
      go_wp2_with fail
      go_ret
      exact ⟨ret_bool (onsB_all HA.out).symm, hB⟩
end Go.Proofs.Ytliligehofjegaa
