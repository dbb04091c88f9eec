/- The contract of the product of magnitudes. -/
import Derived.Test.YtggkbeppfpgkaaaGreatDoorIntMinus
import Derived.Laws.OwnMore
namespace Go.Proofs.YtggkbeppfpgkaaaGreatDoor
open Go.RowKit Putlog

theorem take_nat {l : List Nat} {k : Nat} (h : k < l.length) : leV 10000 (l.take (k + 1)) = leV 10000 (l.take k) + 10000 ^ k * l.getD k 0 := by
  have h8 : l.take (k + 1) = l.take k ++ [l.getD k 0] := by rw [List.take_succ_eq_append_getElem h]; simp [List.getD_eq_getElem?_getD, h]
  have h9 : (l.take k).length = k := by simp; omega
  rw [h8, leV_snoc, h9]
/-- The columns of a product under way. -/
def Prods (A B : List Nat) (i j : Nat) (C : List Int) : Prop := C.length = A.length + B.length ∧ colV C = ((leV 10000 (A.take i) * leV 10000 B + 10000 ^ i * A.getD i 0 * leV 10000 (B.take j) : Nat) : Int) ∧ Bnd (((i * B.length + j : Nat) : Int) * 100000000) C
theorem bnd_zeros (n : Nat) (M : Int) (hM : 0 ≤ M) : Bnd M (List.replicate n 0) := fun x hx => by
  obtain ⟨_, rfl⟩ := List.mem_replicate.1 hx
  omega
theorem Prods.start (A B : List Nat) : Prods A B 0 0 (List.replicate (A.length + B.length) 0) := by
  refine ⟨List.length_replicate, ?_, bnd_zeros _ _ (by omega)⟩
  rw [colV_zeros]; simp [leV]
theorem Prods.next {A B : List Nat} {i : Nat} {C : List Int} (h : Prods A B i B.length C) (hi : i < A.length) : Prods A B (i + 1) 0 C := by
  obtain ⟨h1, h2, h3⟩ := h
  refine ⟨h1, ?_, by rw [Nat.add_mul, Nat.one_mul, Nat.add_zero]; exact h3⟩
  rw [h2, take_nat hi, List.take_length]
  simp only [List.take_zero, leV, Nat.mul_zero, Nat.add_zero, Nat.add_mul]
theorem Prods.bound {A B : List Nat} {i j : Nat} {C : List Int} (h : Prods A B i j C) (hA : A.length ≤ 1000) (hB : B.length ≤ 1000) (hi : i ≤ A.length) (hj : j ≤ B.length) : Bnd 101000000000000 C := by
  refine Bnd.mono h.2.2 ?_
  have h1 : i * B.length ≤ 1000 * 1000 := Nat.mul_le_mul (by omega) hB
  omega
theorem Prods.step {A B : List Nat} {i j : Nat} {C : List Int} (h : Prods A B i j C) (hA : DigB 10000 A) (hB : DigB 10000 B) (hi : i < A.length) (hj : j < B.length) : Prods A B i (j + 1) (C.set (i + j) (C.getD (i + j) 0 + (A.getD i 0 * B.getD j 0 : Nat))) := by
  obtain ⟨h1, h2, h3⟩ := h
  have h4 := bnd_get h3 (j := i + j) (by omega)
  have h5 := digB_get hA hi
  have h6 := digB_get hB hj
  have h7 : A.getD i 0 * B.getD j 0 ≤ 9999 * 9999 := Nat.mul_le_mul (by omega) (by omega)
  refine ⟨by rw [List.length_set]; exact h1, ?_, ?_⟩
  · rw [colV_set C _ _ (by omega), h2, take_nat hj]
    have h8 : C.getD (i + j) 0 + ((A.getD i 0 * B.getD j 0 : Nat) : Int) - C.getD (i + j) 0 = ((A.getD i 0 * B.getD j 0 : Nat) : Int) := by omega
    rw [h8, ← pow_cast, ← Int.natCast_mul, ← Int.natCast_add]
    congr 1
    rw [Nat.mul_add, Nat.pow_add]
    have : 10000 ^ i * 10000 ^ j * (A.getD i 0 * B.getD j 0) = 10000 ^ i * A.getD i 0 * (10000 ^ j * B.getD j 0) := by
      simp only [Nat.mul_assoc, Nat.mul_left_comm]
    omega
  · refine bnd_set (Bnd.mono h3 (by omega)) _ ?_ ?_ <;> omega
theorem prods_end {A B : List Nat} {C : List Int} (hA : DigB 10000 A) (hB : DigB 10000 B) (h : Prods A B A.length 0 C) : 0 ≤ colV C ∧ colV C < 10000 ^ (C.length + 1) ∧ (colV C).toNat = leV 10000 A * leV 10000 B := by
  obtain ⟨h1, h2, _⟩ := h
  rw [List.take_length] at h2
  simp only [List.take_zero, leV, Nat.mul_zero, Nat.add_zero] at h2
  have h3 := leV_lt hA
  have h6 := leV_lt hB
  have h5 := pow_cast (A.length + B.length)
  have h7 : leV 10000 A * leV 10000 B < 10000 ^ (A.length + B.length) := by rw [Nat.pow_add]; exact Nat.mul_lt_mul_of_lt_of_le h3 (Nat.le_of_lt h6) (Nat.pow_pos (by decide))
  rw [h1, Int.pow_succ]
  omega
theorem cols_made {w w1 : World} {n : Nat} (hown : w1.ownsRow w.heap.size 3 1 (.slice (some ⟨w.heap.size, 0, none⟩) n n) n (madeCells (Value.int .i64 0).cells (n * 1)).toList) : ColsAt w1 w.heap.size (some ⟨w.heap.size, 0, none⟩) (List.replicate n 0) := by
  rw [show (Value.int .i64 0).cells = #[.int .i64 0] from rfl, toList_madeCells_one, Nat.mul_one] at hown
  have h' : w1.ownsRow w.heap.size 3 1 (.slice (some ⟨w.heap.size, 0, none⟩) n n) (List.replicate n (0 : Int)).length (vals (List.replicate n 0)) := by
    rw [List.length_replicate]
    have : vals (List.replicate n 0) = List.replicate n (.int .i64 0) := by simp [vals]
    rw [this]; exact hown
  rcases owns_row h' with ⟨h1, _⟩ | ⟨_, g, c, h1, h2, h3, h4⟩
  · exact .inl h1
  · rw [List.length_replicate] at h1
    cases h1
    exact .inr ⟨_, h3, rfl, h4⟩
set_option maxRecDepth 100000 in
set_option maxHeartbeats 4000000 in
theorem times_any (A B : List Nat) (hA : DigB 10000 A) (hB : DigB 10000 B) (hlA : A.length ≤ 1000) (hlB : B.length ≤ 1000) (a b : Option Addr) (ca cb : Nat) (w : World)
    (hra : Room A.length ca) (hrb : Room B.length cb) (hva : CellsAt w a (ofN A)) (hvb : CellsAt w b (ofN B)) :
    Calls Tryz.prog 58 #[.slice a A.length ca, .slice b B.length cb] w fun e w' => (∃ v, e = .returned v ∧ MagNew w' w.heap.size v (digsL 10000 (leV 10000 A * leV 10000 B))) ∧ Below w.heap.size w w' := by
  obtain ⟨i0, hi0, hz0, hz1, hz2⟩ := info_parts info_int
  have HI0 := Lib.hid hi0
  have HZ0 := Lib.hid hz0
  have HZ1 := Lib.hid hz1
  have HZ2 := Lib.hid hz2
  have HDA := Lib.hid hA
  have HDB := Lib.hid hB
  have HVA := Lib.hid hva
  have HVB := Lib.hid hvb
  have hra1 := hra.1
  have hrb1 := hrb.1
  obtain ⟨n, hn⟩ : ∃ n, n = A.length := ⟨_, rfl⟩
  obtain ⟨m, hm⟩ : ∃ m, m = B.length := ⟨_, rfl⟩
  rw [← hn] at hra1 ⊢
  rw [← hm] at hrb1 ⊢
  have HN := Lib.hid hn
  have HM := Lib.hid hm
  have hnb : (n : Int) ≤ 1000 := by omega
  have hmb : (m : Int) ≤ 1000 := by omega
  have HLA : Hid (A.length ≤ 1000) := hlA
  have HLB : Hid (B.length ≤ 1000) := hlB
  clear hi0 hz0 hz1 hz2 hA hB hva hvb hn hm hra hrb hlA hlB
  go_enter Tryz.func58, Tryz.ntmps58
  go_wp2_with (at_make; go_must (refine wpList_make_full _ rfl _ _ 38 rfl w.heap.size 3 i0 (.int .i64 0) 1 Tryz.underlying38 HI0.out HZ0.out HZ1.out .i64 .i64 ((n : Int) + m) ((n : Int) + m) (n + m) rfl rfl (by omega) (by omega) (by rw [HZ2.out]; omega) (by unfold maxLen; omega) (Nat.le_refl _) ?_); intro w1 hown hgrow; have HC1 := Lib.hid (cols_made hown); have HB1 := Lib.hid (belowMade hgrow); clear hown hgrow)
  have HP0 : Hid (Prods A B 0 0 (List.replicate (n + m) 0)) := by show Prods _ _ _ _ _; rw [HN.out, HM.out]; exact Prods.start A B
  go_loopw [18] (fun i wr => ∃ (k : Nat) (C : List Int), k ≤ n ∧ i = .int .i64 k ∧ Prods A B k 0 C ∧ ColsAt wr w.heap.size (some ⟨w.heap.size, 0, none⟩) C ∧ Below w.heap.size w wr) (fun i _ => n - (intOf i).toNat)
  case atStart => exact ⟨0, _, by omega, rfl, HP0.out, HC1.out, HB1.out⟩
  case round =>
    obtain ⟨k, C, hk, rfl, hP, hcols, hB⟩ := hrel
    have HP := Lib.hid hP
    have HCO := Lib.hid hcols
    have HB := Lib.hid hB
    clear hP hcols hB
    by_cases hlt : k < n
    · have hlt' : (k : Int) < n := by omega
      have hnil : ofN A ≠ [] := fun e => by
        have h1 : (ofN A).length = 0 := by rw [e]; rfl
        rw [ofN_len] at h1; have := HN.out; omega
      obtain ⟨ga, oa, rfl, hcell⟩ := HVA.out.resolve_left hnil
      have hax := hcell k (by rw [ofN_len]; have := HN.out; omega)
      rw [ofN_get] at hax
      have hay := keptBelow HB.out hax
      have hxa := digB_get HDA.out (j := k) (by have := HN.out; omega)
      have hxb : ((A.getD k 0 : Nat) : Int) < 10000 := by omega
      clear hnil hcell hax hxa
      obtain ⟨x, hx⟩ : ∃ x, x = A.getD k 0 := ⟨_, rfl⟩
      rw [← hx] at hay hxb
      have HX := Lib.hid hx
      clear hx
      go_wp2_with fail
      go_loopw [25] (fun i wr => ∃ (j : Nat) (C : List Int), j ≤ m ∧ i = .int .i64 j ∧ Prods A B k j C ∧ ColsAt wr w.heap.size (some ⟨w.heap.size, 0, none⟩) C ∧ Below w.heap.size w wr) (fun i _ => m - (intOf i).toNat)
      case atStart => exact ⟨0, _, by omega, rfl, HP.out, HCO.out, HB.out⟩
      case round =>
        obtain ⟨j, C2, hj, rfl, hP2, hcols2, hB2⟩ := hrel
        have HP2 := Lib.hid hP2
        have HCO2 := Lib.hid hcols2
        have HB2 := Lib.hid hB2
        clear hP2 hcols2 hB2
        by_cases hjt : j < m
        · have hjt' : (j : Int) < m := by omega
          have hkj : (k : Int) + j < (n : Int) + m := by omega
          have hlen := HP2.out.1
          have hidx : k + j < C2.length := by have := HN.out; have := HM.out; omega
          obtain ⟨g, hg, hge, hrow⟩ := HCO2.out.at hidx
          obtain rfl : w.heap.size = g := by cases hge; rfl
          obtain ⟨hcx, hfx⟩ := hrow (k + j) hidx
          have hnil : ofN B ≠ [] := fun e => by
            have h1 : (ofN B).length = 0 := by rw [e]; rfl
            rw [ofN_len] at h1; have := HM.out; omega
          obtain ⟨gb, ob, rfl, hcell⟩ := HVB.out.resolve_left hnil
          have hbx := hcell j (by rw [ofN_len]; have := HM.out; omega)
          rw [ofN_get] at hbx
          have hby := keptBelow HB2.out hbx
          have hyb := digB_get HDB.out (j := j) (by have := HM.out; omega)
          have hyb' : ((B.getD j 0 : Nat) : Int) < 10000 := by omega
          have hst := HP2.out.step HDA.out HDB.out (by have := HN.out; omega) (by have := HM.out; omega)
          have hcb := bnd_get (HP2.out.bound HLA.out HLB.out (by have := HN.out; omega) (by have := HM.out; omega)) hidx
          rw [← HX.out] at hst
          have hrow2 := hrow.set (k + j) hidx (C2.getD (k + j) 0 + ((x * B.getD j 0 : Nat) : Int))
          have hbel := below_set HB2.out hg (i := k + j) (.int .i64 (C2.getD (k + j) 0 + ((x * B.getD j 0 : Nat) : Int)))
          have hmul : x * B.getD j 0 ≤ 9999 * 9999 := Nat.mul_le_mul (by omega) (by omega)
          have HST := Lib.hid hst
          have HRW := Lib.hid hrow2
          have HBE := Lib.hid hbel
          obtain ⟨z, hz⟩ : ∃ z, z = x * B.getD j 0 := ⟨_, rfl⟩
          have hzz : (x : Int) * ((B.getD j 0 : Nat) : Int) = (z : Nat) := by rw [hz, Int.natCast_mul]
          have hzb : (z : Int) ≤ 100000000 := by omega
          rw [← hz] at HST HRW HBE
          have htn : ((k : Int) + j).toNat = k + j := by omega
          clear hst hrow hrow2 hbel hge hnil hcell hbx hyb hmul hz hlen hidx
          generalize C2.getD (k + j) 0 = c at *
          generalize B.getD j 0 = y at *
          go_wp2_with fail
          go_roundw
          case rel => exact ⟨j + 1, _, by omega, by go_num, HST.out, .inr ⟨_, hg, rfl, HRW.out⟩, HBE.out⟩
          case measure => simp [intOf]; omega
        · obtain rfl : j = m := by omega
          have hP3 := HP2.out
          rw [HM.out] at hP3
          have HP3 := Lib.hid (hP3.next (by have := HN.out; omega))
          clear hP3
          go_wp2_with fail
          go_roundw
          case rel => exact ⟨k + 1, _, by omega, by go_num, HP3.out, HCO2.out, HB2.out⟩
          case measure => simp [intOf]; omega
    · obtain rfl : k = n := by omega
      have hAD := HP.out
      rw [HN.out] at hAD
      obtain ⟨e1, e2, e3⟩ := prods_end HDA.out HDB.out hAD
      have hlC : C.length = k + m := by have := HP.out.1; have := HN.out; have := HM.out; omega
      have hcall := carried_any C (some ⟨w.heap.size, 0, none⟩) (k + m) wr (by omega) (Bnd.mono (HP.out.bound HLA.out HLB.out (by have := HN.out; omega) (by omega)) (by decide)) (by rw [hlC]; exact ⟨Nat.le_refl _, by omega⟩) HCO.out.cells e1 e2
      rw [hlC, e3] at hcall
      have HCA := Lib.hid hcall
      clear hAD e1 e2 e3 hcall hlC
      go_wp2_with fail
      refine HCA.out.mono ?_
      rintro e w2 ⟨⟨v2, rfl, hnew⟩, hB2⟩
      have HNW := Lib.hid (hnew.mono HB.out.size)
      have HB2 := Lib.hid (belowVia hB2 HB.out)
      obtain ⟨g2, c2, rfl, _⟩ := hnew
      clear hB2
      go_wp2_with fail
      go_ret
      exact ⟨⟨_, rfl, HNW.out⟩, HB2.out⟩
end Go.Proofs.YtggkbeppfpgkaaaGreatDoor
