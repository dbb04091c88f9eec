/- The contract of the reference's Same. -/
import Derived.Test.YtliligehofjegaaPlnMade
import Derived.Test.YtliligehofjegaaPlnMap
namespace Go.Proofs.Ytliligehofjegaa
open Go.RowKit Go.Shelf Pln

theorem vx_ext {a b : List Pt} (h : a.length = b.length) (h2 : ∀ j, j < a.length → vx a j = vx b j) : a = b := by
  apply List.ext_getElem h
  intro i h3 h4
  have := h2 i h3
  rwa [vx_eq h3, vx_eq h4] at this
/-- Whether two lists are the same. -/
def sameB (a b : List Pt) : Bool := decide (a = b)
theorem same_no_len {a b : List Pt} (h : a.length ≠ b.length) : sameB a b = false := decide_eq_false (fun e => h (by rw [e]))
theorem same_no_at {a b : List Pt} {j : Nat} (h : vx a j ≠ vx b j) : sameB a b = false := decide_eq_false (fun e => h (by rw [e]))
theorem same_yes {a b : List Pt} (h : a.length = b.length) (h2 : ∀ j, j < a.length → vx a j = vx b j) : sameB a b = true := decide_eq_true (vx_ext h h2)
set_option maxRecDepth 100000 in
set_option maxHeartbeats 2000000 in
theorem same_w (a b : List Pt) (ha : (a.length : Int) ≤ 4611686018427387904) (va vb : Value) (w : World) (hva : PtsAt w va a) (hvb : PtsAt w vb b) :
    Calls Try.prog 31 #[va, vb] w fun e w' => e = .returned (.bool (sameB a b)) ∧ Below w.heap.size w w' := by
  have HVA := Lib.hid hva
  have HVB := Lib.hid hvb
  obtain ⟨⟨aa, ca, rfl, _, _, _⟩, _⟩ := hva
  obtain ⟨⟨ab, cb, rfl, _, _, _⟩, _⟩ := hvb
  obtain ⟨na, hna⟩ : ∃ na, na = a.length := ⟨_, rfl⟩
  obtain ⟨nb, hnb⟩ : ∃ nb, nb = b.length := ⟨_, rfl⟩
  have HNA := Lib.hid hna
  have HNB := Lib.hid hnb
  have hab : (na : Int) ≤ 4611686018427387904 := by omega
  rw [← hna] at HVA ⊢
  rw [← hnb] at HVB ⊢
  by_cases he : na = nb
  · subst he
    have HY : Hid ((∀ j, j < na → vx a j = vx b j) → sameB a b = true) := Lib.hid (fun h => same_yes (by rw [← hna, ← hnb]) (fun j hj => h j (by rw [hna]; exact hj)))
    have HN : Hid (∀ j, vx a j ≠ vx b j → sameB a b = false) := Lib.hid (fun j => same_no_at)
    clear hna hnb ha
    go_enter Try.func31, Try.ntmps31
    go_wp2_with fail
    go_loopw [5] (fun i wr => ∃ k : Nat, k ≤ na ∧ i = .int .i64 k ∧ (∀ j, j < k → vx a j = vx b j) ∧ Below w.heap.size w wr) (fun i _ => na - (intOf i).toNat)
    case atStart => exact ⟨0, by omega, rfl, fun j hj => by omega, Below.refl _ _⟩
    case round =>
      obtain ⟨k, hk, rfl, hj, hB⟩ := hrel
      have HJ := Lib.hid hj
      have HB := Lib.hid hB
      by_cases hlt : k < na
      · have hlt' : (k : Int) < na := by omega
        have hka : k < a.length := by rw [← HNA.out]; exact hlt
        have hkb : k < b.length := by rw [← HNB.out]; exact hlt
        have hv2 := HVA.out.via hB
        obtain ⟨⟨a', c', he, _, _, hin⟩, _⟩ := hv2
        rw [← HNA.out] at he
        cases he
        obtain ⟨g, o, rfl, c0, c1⟩ := hin.get hka
        have hv3 := HVB.out.via hB
        obtain ⟨⟨a', c', he, _, _, hin2⟩, _⟩ := hv3
        rw [← HNB.out] at he
        cases he
        obtain ⟨g2, o2, rfl, d0, d1⟩ := hin2.get hkb
        have HN2 := Lib.hid (HN.out k)
        have HS : Hid (vx a k = vx b k → ∀ j, j < k + 1 → vx a j = vx b j) := Lib.hid (fun h => snoc_all hj h)
        clear hin hin2 hka hkb hj hB
        generalize vx a k = p at *
        generalize vx b k = q at *
        obtain ⟨p1, p2⟩ := p
        obtain ⟨q1, q2⟩ := q
        dsimp only at c0 c1 d0 d1
        rcases pt_cases p1 p2 q1 q2 with ⟨rfl, rfl⟩ | h | ⟨rfl, h⟩
        · have HS2 := Lib.hid (HS.out rfl)
          go_wp2_with fail
          go_quiet (fail)
          go_wp2_with fail
          go_roundw
          case rel => exact ⟨k + 1, by omega, by go_num, HS2.out, below_drewN HB.out _⟩
          case measure => simp [intOf]; omega
        · have HR := Lib.hid (HN2.out (fun e => h (congrArg Prod.fst e)))
          go_wp2_with fail
          go_quiet (fail)
          go_wp2_with fail
          go_ret
          exact ⟨ret_bool HR.out.symm, below_drewN HB.out _⟩
        · have HR := Lib.hid (HN2.out (fun e => h (congrArg Prod.snd e)))
          go_wp2_with fail
          go_quiet (fail)
          go_wp2_with fail
          go_ret
          exact ⟨ret_bool HR.out.symm, below_drewN HB.out _⟩
      · obtain rfl : na = k := by omega
        have HR := Lib.hid (HY.out HJ.out)
        clear hj hB
        go_wp2_with fail
        go_ret
        exact ⟨ret_bool HR.out.symm, HB.out⟩
  · have HR := Lib.hid (same_no_len (a := a) (b := b) (by rw [← hna, ← hnb]; exact he))
    have he2 : ¬ (na : Int) = nb := by omega
    clear hna hnb ha
    go_enter Try.func31, Try.ntmps31
    go_wp2_with fail
    go_ret
    exact ⟨ret_bool HR.out.symm, Below.refl _ _⟩
end Go.Proofs.Ytliligehofjegaa
