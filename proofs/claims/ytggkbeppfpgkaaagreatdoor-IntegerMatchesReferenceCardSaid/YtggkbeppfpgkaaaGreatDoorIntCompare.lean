/- The contracts of the order of magnitudes, and of what a magnitude has above an index. -/
import Derived.Test.YtggkbeppfpgkaaaGreatDoorIntTimes
import Derived.Test.YtggkbeppfpgkaaaGreatDoorIntApi
import Derived.Test.YtggkbeppfpgkaaaGreatDoorShelf
namespace Go.Proofs.YtggkbeppfpgkaaaGreatDoor
open Go.RowKit Putlog

theorem compareInt_eq (x y : Int) : Lib.compareInt x y = cmpI x y := by unfold Lib.compareInt cmpI; rfl
theorem drop_next {l : List Nat} {k : Nat} (h : k < l.length) : l.drop k = l.getD k 0 :: l.drop (k + 1) := by
  rw [List.drop_eq_getElem_cons h]; simp [List.getD_eq_getElem?_getD, h]
theorem cmp_top {A B : List Nat} {q : Nat} (hA : DigB 10000 A) (hB : DigB 10000 B) (hl : A.length = B.length) (hq : q < A.length) (hd : A.drop (q + 1) = B.drop (q + 1)) (hne : A.getD q 0 ≠ B.getD q 0) : cmpI (leV 10000 A : Nat) (leV 10000 B : Nat) = cmpI (A.getD q 0 : Nat) (B.getD q 0 : Nat) := by
  have eA : A = A.take q ++ A.getD q 0 :: A.drop (q + 1) := by rw [← drop_next hq, List.take_append_drop]
  have eB : B = B.take q ++ B.getD q 0 :: A.drop (q + 1) := by rw [hd, ← drop_next (by omega), List.take_append_drop]
  have hAt : DigB 10000 (A.take q) := fun x hx => hA x (List.mem_of_mem_take hx)
  have hBt : DigB 10000 (B.take q) := fun x hx => hB x (List.mem_of_mem_take hx)
  have hlt : (A.take q).length = (B.take q).length := by simp; omega
  rcases Nat.lt_or_gt_of_ne hne with h | h
  · have := leV_top (t := A.drop (q + 1)) hAt hlt h
    rw [← eA, ← eB] at this
    unfold cmpI
    rw [if_pos (by omega), if_pos (by omega)]
  · have := leV_top (t := A.drop (q + 1)) hBt hlt.symm h
    rw [← eA, ← eB] at this
    unfold cmpI
    rw [if_neg (by omega), if_pos (by omega), if_neg (by omega), if_pos (by omega)]
theorem cmp_len {A B : List Nat} (hA : DigB 10000 A) (hB : DigB 10000 B) (nA : Norm A) (nB : Norm B) (hl : A.length ≠ B.length) : cmpI (leV 10000 A : Nat) (leV 10000 B : Nat) = cmpI (A.length : Nat) (B.length : Nat) := by
  rcases Nat.lt_or_gt_of_ne hl with h | h
  · have := leV_len_lt (by decide) hA nB h
    unfold cmpI
    rw [if_pos (by omega), if_pos (by omega)]
  · have := leV_len_lt (by decide) hB nA h
    unfold cmpI
    rw [if_neg (by omega), if_pos (by omega), if_neg (by omega), if_pos (by omega)]
theorem cells_get {w : World} {a : Option Addr} {l : List Nat} (h : CellsAt w a (ofN l)) {k : Nat} (hk : k < l.length) : ∃ g o, a = some ⟨g, o, none⟩ ∧ ∀ j, j < l.length → w.cell? ⟨g, o + j, none⟩ = some (.int .i64 (l.getD j 0 : Nat)) := by
  rcases h with h | ⟨g, o, h1, h2⟩
  · have h3 : (ofN l).length = 0 := by rw [h]; rfl
    rw [ofN_len] at h3; omega
  · exact ⟨g, o, h1, fun j hj => by rw [← ofN_get]; exact h2 j (by rw [ofN_len]; exact hj)⟩
set_option maxRecDepth 100000 in
set_option maxHeartbeats 4000000 in
theorem compare_any (A B : List Nat) (hA : DigB 10000 A) (hB : DigB 10000 B) (nA : Norm A) (nB : Norm B) (hlA : A.length ≤ 100000) (hlB : B.length ≤ 100000) (a b : Option Addr) (ca cb : Nat) (w : World)
    (hra : Room A.length ca) (hrb : Room B.length cb) (hva : CellsAt w a (ofN A)) (hvb : CellsAt w b (ofN B)) :
    Calls Tryz.prog 55 #[.slice a A.length ca, .slice b B.length cb] w fun e w' => e = .returned (.int .i64 (cmpI (leV 10000 A : Nat) (leV 10000 B : Nat))) ∧ Below w.heap.size w w' := by
  have HDA := Lib.hid hA
  have HDB := Lib.hid hB
  have HVA := Lib.hid hva
  have HVB := Lib.hid hvb
  have hra1 := hra.1
  have hrb1 := hrb.1
  have hlA' : (A.length : Int) ≤ 100000 := by omega
  have hlB' : (B.length : Int) ≤ 100000 := by omega
  by_cases hl : A.length = B.length
  · obtain ⟨n, hn⟩ : ∃ n, n = A.length := ⟨_, rfl⟩
    rw [← hl] at hrb1 ⊢
    rw [← hn] at hra1 hrb1 hlA' ⊢
    have HN := Lib.hid hn
    have HL := Lib.hid hl
    clear hA hB hva hvb hra hrb hlA hlB hn hl nA nB hlB'
    have hd0 : ((n : Int) != n) = false := by simp
    go_enter Tryz.func55, Tryz.ntmps55
    go_wp2_with fail
    go_loopw [5] (fun i wr => ∃ k : Nat, k ≤ n ∧ i = .int .i64 ((k : Int) - 1) ∧ A.drop k = B.drop k ∧ Below w.heap.size w wr) (fun i _ => (1 + intOf i).toNat)
    case atStart => exact ⟨n, Nat.le_refl _, rfl, by have h1 := HN.out; have h2 := HL.out; rw [List.drop_of_length_le (by omega), List.drop_of_length_le (by omega)], Below.refl _ _⟩
    case round =>
      obtain ⟨k, hk, rfl, hd, hB⟩ := hrel
      have HD := Lib.hid hd
      have HB := Lib.hid hB
      clear hd hB
      rcases Nat.eq_zero_or_pos k with rfl | h0
      · have HE : Hid (cmpI (leV 10000 A : Nat) (leV 10000 B : Nat) = 0) := by
          show _ = _
          have : A = B := by have := HD.out; simpa using this
          rw [this]; unfold cmpI; simp
        go_wp2_with fail
        go_ret
        rw [HE.out]
        exact ⟨rfl, HB.out⟩
      · obtain ⟨q, rfl⟩ : ∃ q, k = q + 1 := ⟨k - 1, by omega⟩
        have hqA : q < A.length := by have := HN.out; omega
        have hqB : q < B.length := by have := HL.out; omega
        obtain ⟨ga, oa, rfl, hca⟩ := cells_get HVA.out hqA
        obtain ⟨gb, ob, rfl, hcb⟩ := cells_get HVB.out hqB
        have hcx := keptBelow HB.out (hca q hqA)
        have hcy := keptBelow HB.out (hcb q hqB)
        have hqe : ((q + 1 : Nat) : Int) - 1 = q := by omega
        have hqn : (q : Int) < n := by omega
        rw [hqe]
        by_cases hne : A.getD q 0 = B.getD q 0
        · have HE : Hid (A.drop q = B.drop q) := by show _ = _; rw [drop_next hqA, drop_next hqB, hne, HD.out]
          have hnb : (((A.getD q 0 : Nat) : Int) != ((B.getD q 0 : Nat) : Int)) = false := by rw [hne]; simp
          clear hca hcb hqA hqB hne
          generalize A.getD q 0 = x at *
          generalize B.getD q 0 = y at *
          go_wp2_with fail
          go_quiet (fail)
          go_wp2_with fail
          go_roundw
          case rel => exact ⟨q, by omega, by go_num, HE.out, below_drewN HB.out _⟩
          case measure => simp [intOf]; omega
        · have HE := Lib.hid (cmp_top HDA.out HDB.out HL.out hqA HD.out hne)
          have hnb : (((A.getD q 0 : Nat) : Int) != ((B.getD q 0 : Nat) : Int)) = true := by rw [bne_iff_ne]; omega
          clear hca hcb hqA hqB hne
          generalize A.getD q 0 = x at *
          generalize B.getD q 0 = y at *
          go_wp2_with fail
          go_quiet (fail)
          go_wp2_with fail
          have hcx2 : (wr.drewN nq).cell? ⟨ga, oa + q, none⟩ = some (.int .i64 (x : Nat)) := hcx
          have hcy2 : (wr.drewN nq).cell? ⟨gb, ob + q, none⟩ = some (.int .i64 (y : Nat)) := hcy
          have HB2 : Hid (Below w.heap.size w (wr.drewN nq)) := below_drewN HB.out _
          generalize wr.drewN nq = w9 at *
          clear nq hcx hcy
          go_quiet ((go_at_call 71; exact Calls.quiet_of_same (Tryz.cmp_Compare_int _ _ _)))
          go_wp2_with fail
          go_ret
          refine ⟨?_, below_drewN HB2.out _⟩
          rw [HE.out, ← compareInt_eq]; rfl
  · have HE := Lib.hid (cmp_len hA hB nA nB hl)
    obtain ⟨n, hn⟩ : ∃ n, n = A.length := ⟨_, rfl⟩
    obtain ⟨m, hm⟩ : ∃ m, m = B.length := ⟨_, rfl⟩
    have hnm : ((n : Int) != m) = true := by rw [bne_iff_ne]; omega
    rw [← hn, ← hm] at HE
    rw [← hn] at hra1 hlA' ⊢
    rw [← hm] at hrb1 hlB' ⊢
    clear hA hB hva hvb hra hrb hlA hlB hn hm hl nA nB
    go_enter Tryz.func55, Tryz.ntmps55
    go_wp2_with (go_at_call 71; refine (Tryz.cmp_Compare_int _ _ _).mono ?_; rintro e w1 ⟨rfl, rfl⟩)
    go_ret
    refine ⟨?_, Below.refl _ _⟩
    rw [HE.out, ← compareInt_eq]; rfl
end Go.Proofs.YtggkbeppfpgkaaaGreatDoor
