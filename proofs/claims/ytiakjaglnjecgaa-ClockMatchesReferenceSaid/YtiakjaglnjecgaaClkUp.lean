/- The contracts of upTo and Spread. -/
import Derived.Test.YtiakjaglnjecgaaClkKit
namespace Go.Proofs.Ytiakjaglnjecgaa
open Go.RowKit Putlog

def upB (m : Int) (l : List Int) : Bool := l.all fun n => decide (0 ≤ n) && decide (n ≤ m)
theorem upB_take {m : Int} {l : List Int} {k : Nat} (h : k < l.length) : upB m (l.take (k + 1)) = (upB m (l.take k) && (decide (0 ≤ l.getD k 0) && decide (l.getD k 0 ≤ m))) := by
  rw [List.take_succ_eq_append_getElem h, upB, List.all_append, List.getD_eq_getElem?_getD, List.getElem?_eq_getElem h]
  simp [upB]
theorem upB_false {m : Int} {l : List Int} {k : Nat} (h : k < l.length) (hn : ¬ (0 ≤ l.getD k 0 ∧ l.getD k 0 ≤ m)) : upB m l = false := by
  have h1 : l.getD k 0 ∈ l := by rw [List.getD_eq_getElem?_getD, List.getElem?_eq_getElem h]; exact List.getElem_mem h
  rw [upB, List.all_eq_false]
  exact ⟨_, h1, by simpa using hn⟩

set_option maxRecDepth 100000 in
set_option maxHeartbeats 1000000 in
theorem up_any (m : Int) (l : List Int) (hl : l.length ≤ 100) (a : Option Addr) (c : Nat) (w : World) (hv : NumsIn w a l) :
    Calls Try.prog 22 #[.int .i64 m, .slice a l.length c] w fun e w' => e = .returned (.bool (upB m l)) ∧ w = w' := by
  have HV := Lib.hid hv
  obtain ⟨n, hn⟩ : ∃ n, n = l.length := ⟨_, rfl⟩
  rw [← hn] at hl ⊢
  have HN := Lib.hid hn
  have hnb : (n : Int) ≤ 100 := by omega
  clear hv hn hl
  go_enter Try.func22, Try.ntmps22
  go_wp2_with fail
  go_loop [9] (fun i => ∃ k : Nat, k ≤ n ∧ i = .int .i64 k ∧ upB m (l.take k) = true) (fun i => n - (intOf i).toNat)
  case atStart => exact ⟨0, Nat.zero_le _, rfl, rfl⟩
  case round =>
    obtain ⟨k, hk, rfl, hu⟩ := hrel
    have HU := Lib.hid hu
    clear hu
    by_cases hlt : k < n
    · have hlt' : (k : Int) < n := by omega
      have hkl : k < l.length := by have := HN.out; omega
      obtain ⟨g, o, rfl, hcell⟩ := HV.out.get hkl
      have HT := Lib.hid (upB_take (m := m) hkl)
      have HF := Lib.hid (fun h => upB_false (m := m) hkl h)
      clear hkl
      generalize l.getD k 0 = x at *
      by_cases h0 : 0 ≤ x
      · by_cases h1 : x ≤ m
        · go_wp2_with fail
          go_round
          case rel => exact ⟨k + 1, by omega, by go_num, by rw [HT.out, HU.out]; simp [h0, h1]⟩
          case measure => simp [intOf]; omega
        · have h1' : m < x := by omega
          go_wp2_with fail
          go_ret
          exact ⟨ret_bool (HF.out (by omega)).symm, rfl⟩
      · have h0' : x < 0 := by omega
        go_wp2_with fail
        go_ret
        exact ⟨ret_bool (HF.out (by omega)).symm, rfl⟩
    · obtain rfl : k = n := by omega
      go_wp2_with fail
      go_ret
      exact ⟨ret_bool (by have := HU.out; rw [List.take_of_length_le (by have := HN.out; omega)] at this; exact this.symm), rfl⟩

/-- Made of numbers that lie in a new block. -/
theorem nums_one (w : World) (x : Int) (t : TypeId) {b : Nat} (hb : b = w.heap.size) : NumsIn (w.alloc (.cells #[.int .i64 x] t)) (some ⟨b, 0, none⟩) [x] := .inr ⟨_, 0, rfl, fun j hj => by
  obtain rfl : j = 0 := by simp at hj; omega
  subst hb
  exact cell_rowN _ _ _ _ rfl⟩
theorem nums_three (w : World) (x y z : Int) (t : TypeId) {b : Nat} (hb : b = w.heap.size) : NumsIn (w.alloc (.cells #[.int .i64 x, .int .i64 y, .int .i64 z] t)) (some ⟨b, 0, none⟩) [x, y, z] := .inr ⟨_, 0, rfl, fun j hj => by
  have : j = 0 ∨ j = 1 ∨ j = 2 := by simp at hj; omega
  subst hb
  rcases this with rfl | rfl | rfl <;> exact cell_rowN _ _ _ _ rfl⟩
def upOne (m x : Int) : Bool := decide (0 ≤ x) && decide (x ≤ m)
theorem upB_one (m x : Int) : upB m [x] = upOne m x := by simp [upB, upOne]
theorem upB_three (m x y z : Int) : upB m [x, y, z] = (upOne m x && (upOne m y && upOne m z)) := by simp [upB, upOne]
theorem upOne_iff {m x : Int} : upOne m x = true ↔ 0 ≤ x ∧ x ≤ m := by simp [upOne]
theorem upOne_no {m x : Int} : upOne m x = false ↔ x < 0 ∨ m < x := by simp [upOne]; omega
theorem up_one (m x : Int) (a : Option Addr) (c : Nat) (w : World) (r : Bool) (hr : upOne m x = r) (h : NumsIn w a [x]) :
    Calls Try.prog 22 #[.int .i64 m, .slice a 1 c] w fun e w' => e = .returned (.bool r) ∧ w = w' := by
  rw [← hr, ← upB_one]
  exact up_any m [x] (by simp) _ c _ h
theorem up_three (m x y z : Int) (a : Option Addr) (c : Nat) (w : World) (r : Bool) (hr : (upOne m x && (upOne m y && upOne m z)) = r) (h : NumsIn w a [x, y, z]) :
    Calls Try.prog 22 #[.int .i64 m, .slice a 3 c] w fun e w' => e = .returned (.bool r) ∧ w = w' := by
  rw [← hr, ← upB_three]
  exact up_any m [x, y, z] (by simp) _ c _ h

set_option maxRecDepth 100000 in
set_option maxHeartbeats 1000000 in
theorem spread_ok (d n : Int) (w : World) (h0 : 0 ≤ d) (h1 : d ≤ 100) (h2 : 0 ≤ n) (h3 : n ≤ 10000000) :
    Calls Try.prog 5 #[.int .i64 d, .int .i64 n] w fun e w' => e = .returned (.tuple #[.int .i64 (loS d n), .int .i64 (hiS d n)]) ∧ Below w.heap.size w w' := by
  have HD := Lib.hid (upOne_iff.2 ⟨h0, h1⟩)
  have HN := Lib.hid (upOne_iff.2 ⟨h2, h3⟩)
  have e1 : 0 ≤ 1000 * n + d := by omega
  have e2 : 0 ≤ 1000 * n + 999 := by omega
  have e3 : 0 < 1000 + d := by omega
  have e4 : 0 < 1000 - d := by omega
  have HL := Lib.hid (show loS d n = (1000 * n + d) / (1000 + d) from rfl)
  have HH := Lib.hid (show hiS d n = (1000 * n + 999) / (1000 - d) from rfl)
  go_enter Try.func5, Try.ntmps5
  go_wp2_with fail
  refine (up_one 100 d _ _ _ true HD.out (nums_one _ _ _ rfl)).mono ?_
  rintro e w1 ⟨rfl, rfl⟩
  go_wp2_with fail
  refine (up_one 10000000 n _ _ _ true HN.out (nums_one _ _ _ (by simp))).mono ?_
  rintro e w1 ⟨rfl, rfl⟩
  go_wp2_with fail
  go_quiet (fail)
  go_wp2_with fail
  go_ret2
  exact ⟨ret_ii HL.out.symm (by rw [HH.out]; congr 1; omega), below_drewN ((alloc_below _ _).alloc (by simp) _) _⟩
/-- Out of its range. -/
theorem spread_no (d n : Int) (w : World) (h : ¬ (0 ≤ d ∧ d ≤ 100 ∧ 0 ≤ n ∧ n ≤ 10000000)) :
    Calls Try.prog 5 #[.int .i64 d, .int .i64 n] w fun e w' => e = .returned (.tuple #[.int .i64 0, .int .i64 0]) ∧ Below w.heap.size w w' := by
  by_cases hd : 0 ≤ d ∧ d ≤ 100
  · have HD := Lib.hid (upOne_iff.2 hd)
    have HN := Lib.hid (upOne_no.2 (show n < 0 ∨ 10000000 < n by omega))
    clear h hd
    go_enter Try.func5, Try.ntmps5
    go_wp2_with fail
    refine (up_one 100 d _ _ _ true HD.out (nums_one _ _ _ rfl)).mono ?_
    rintro e w1 ⟨rfl, rfl⟩
    go_wp2_with fail
    refine (up_one 10000000 n _ _ _ false HN.out (nums_one _ _ _ (by simp))).mono ?_
    rintro e w1 ⟨rfl, rfl⟩
    go_wp2_with fail
    go_ret2
    exact ⟨rfl, (alloc_below _ _).alloc (by simp) _⟩
  · have HD := Lib.hid (upOne_no.2 (show d < 0 ∨ 100 < d by omega))
    clear h hd
    go_enter Try.func5, Try.ntmps5
    go_wp2_with fail
    refine (up_one 100 d _ _ _ false HD.out (nums_one _ _ _ rfl)).mono ?_
    rintro e w1 ⟨rfl, rfl⟩
    go_wp2_with fail
    go_ret2
    exact ⟨rfl, alloc_below _ _⟩
end Go.Proofs.Ytiakjaglnjecgaa
