/- The contracts of differences, sums and multiples of magnitudes. -/
import Derived.Test.YtggkbeppfpgkaaaGreatDoorIntSums
namespace Go.Proofs.YtggkbeppfpgkaaaGreatDoor
open Go.RowKit Putlog

theorem minus_end {A B : List Nat} {C : List Int} (hA : DigB 10000 A) (h : Added 20000 (-1) A B B.length C) (hle : leV 10000 B ≤ leV 10000 A) : 0 ≤ colV C ∧ colV C < 10000 ^ (C.length + 1) ∧ (colV C).toNat = leV 10000 A - leV 10000 B := by
  obtain ⟨h1, h2, _, _⟩ := h
  rw [List.take_length] at h2
  have h3 := leV_lt hA
  have h4 := pow_up (show A.length ≤ C.length + 1 by omega)
  have h5 := pow_cast A.length
  omega
theorem plus_end {A B : List Nat} {C : List Int} (hA : DigB 10000 A) (hB : DigB 10000 B) (hl : B.length ≤ A.length) (h : Added 20000 1 A B B.length C) : 0 ≤ colV C ∧ colV C < 10000 ^ (C.length + 1) ∧ (colV C).toNat = leV 10000 A + leV 10000 B := by
  obtain ⟨h1, h2, _, _⟩ := h
  rw [List.take_length] at h2
  have h3 := leV_lt hA
  have h6 := leV_lt hB
  have h7 : 10000 ^ B.length ≤ 10000 ^ A.length := Nat.pow_le_pow_right (by decide) hl
  have h5 := pow_cast A.length
  rw [h1, Int.pow_succ]
  omega
theorem scaled_end {A : List Nat} {C : List Int} {f : Nat} (hA : DigB 10000 A) (hf : f ≤ 10000) (h : Added 100000000 ((f : Int) - 1) A A A.length C) : 0 ≤ colV C ∧ colV C < 10000 ^ (C.length + 1) ∧ (colV C).toNat = leV 10000 A * f := by
  obtain ⟨h1, h2, _, _⟩ := h
  rw [List.take_length, Int.sub_mul, Int.one_mul] at h2
  have h3 := leV_lt hA
  have h5 := pow_cast A.length
  have h6 : leV 10000 A * f ≤ leV 10000 A * 10000 := Nat.mul_le_mul_left _ hf
  have h7 : (f : Int) * (leV 10000 A : Nat) = ((leV 10000 A * f : Nat) : Int) := by rw [Int.natCast_mul, Int.mul_comm]
  rw [h1, Int.pow_succ]
  omega
set_option maxRecDepth 100000 in
set_option maxHeartbeats 2000000 in
theorem minus_any (A B : List Nat) (hA : DigB 10000 A) (hB : DigB 10000 B) (hlA : A.length ≤ 30000) (hlen : B.length ≤ A.length) (hle : leV 10000 B ≤ leV 10000 A) (a b : Option Addr) (ca cb : Nat) (w : World)
    (_hra : Room A.length ca) (hrb : Room B.length cb) (hva : CellsAt w a (ofN A)) (hvb : CellsAt w b (ofN B)) :
    Calls Tryz.prog 56 #[.slice a A.length ca, .slice b B.length cb] w fun e w' => (∃ v, e = .returned v ∧ MagNew w' w.heap.size v (digsL 10000 (leV 10000 A - leV 10000 B))) ∧ Below w.heap.size w w' := by
  have HDA := Lib.hid hA
  have HDB := Lib.hid hB
  have HLE := Lib.hid hle
  have HVA := Lib.hid hva
  have HVB := Lib.hid hvb
  obtain ⟨m, hm⟩ : ∃ m, m = B.length := ⟨_, rfl⟩
  have HL : Hid (m ≤ A.length) := by show _ ≤ _; omega
  have hrb1 := hrb.1
  rw [← hm] at hrb1 ⊢
  have HM := Lib.hid hm
  have hmb : (m : Int) ≤ 30000 := by omega
  have HLA : Hid (A.length ≤ 30000) := hlA
  clear hA hB hle hva hvb hm hlen hrb
  go_enter Tryz.func56, Tryz.ntmps56
  go_wp2_with fail
  refine (clone_any A (by omega) a ca w HVA.out).mono ?_
  rintro e w1 ⟨⟨v, rfl, hown⟩, hB1⟩
  obtain ⟨a1, c1, rfl, hr1, hC1⟩ := cols_clone hown
  have hr1' := hr1.1
  have HR1 := Lib.hid hr1
  have HC1 := Lib.hid hC1
  have HB1 := Lib.hid hB1
  clear hown hr1 hC1 hB1
  go_wp2_with fail
  go_loopw [12] (fun i wr => ∃ (k : Nat) (C : List Int), k ≤ m ∧ i = .int .i64 k ∧ Added 20000 (-1) A B k C ∧ ColsAt wr w.heap.size a1 C ∧ Below w.heap.size w wr) (fun i _ => m - (intOf i).toNat)
  case atStart => exact ⟨0, _, by omega, rfl, Added.start (by decide) HDA.out B, HC1.out, HB1.out⟩
  case round =>
    obtain ⟨k, C, hk, rfl, hadd, hcols, hB⟩ := hrel
    have HAD := Lib.hid hadd
    have HCO := Lib.hid hcols
    have HB := Lib.hid hB
    clear hadd hcols hB
    by_cases hlt : k < m
    · have hlt' : (k : Int) < m := by omega
      have hkA : (k : Int) < A.length := by have := HL.out; omega
      have hCl := HAD.out.1
      obtain ⟨g, hg, rfl, hrow⟩ := HCO.out.at (k := k) (by omega)
      obtain ⟨hcx, hfx⟩ := hrow k (by omega)
      have hnil : ofN B ≠ [] := fun e => by
        have h1 : (ofN B).length = 0 := by rw [e]; rfl
        rw [ofN_len] at h1; have := HM.out; omega
      obtain ⟨gb, ob, rfl, hcell⟩ := HVB.out.resolve_left hnil
      have hby := hcell k (by rw [ofN_len]; have := HM.out; omega)
      rw [ofN_get] at hby
      have hbx := keptBelow HB.out hby
      have hyb := digB_get HDB.out (j := k) (by have := HM.out; omega)
      have hxa := digB_get HDA.out (j := k) (by omega)
      have hxe := HAD.out.2.2.2 k (Nat.le_refl _)
      have e1 : ((A.getD k 0 : Nat) : Int) + -1 * ((B.getD k 0 : Nat) : Int) = (A.getD k 0 : Nat) - (B.getD k 0 : Nat) := by omega
      have hst := HAD.out.step (by have := HM.out; omega) (by have := HL.out; have := HM.out; omega) (by rw [e1]; omega)
      have hrow2 := hrow.set k (by omega) (((A.getD k 0 : Nat) : Int) + -1 * (B.getD k 0 : Nat))
      have hbel := below_set HB.out hg (i := k) (.int .i64 (((A.getD k 0 : Nat) : Int) + -1 * (B.getD k 0 : Nat)))
      rw [e1] at hst hrow2 hbel
      rw [hxe] at hcx
      have hxa' : ((A.getD k 0 : Nat) : Int) < 10000 := by omega
      have HST := Lib.hid hst
      have HRW := Lib.hid hrow2
      have HBE := Lib.hid hbel
      have hyb' : ((B.getD k 0 : Nat) : Int) < 10000 := by omega
      clear hst hrow hrow2 hbel hcell hnil e1 hby hyb hCl hxa hxe
      generalize A.getD k 0 = x at *
      generalize B.getD k 0 = y at *
      go_wp2_with fail
      go_roundw
      case rel => exact ⟨k + 1, _, by omega, by go_num, HST.out, .inr ⟨g, hg, rfl, HRW.out⟩, HBE.out⟩
      case measure => simp [intOf]; omega
    · obtain rfl : k = m := by omega
      have hAD := HAD.out
      rw [HM.out] at hAD
      obtain ⟨e1, e2, e3⟩ := minus_end HDA.out hAD HLE.out
      have hcall := carried_any C a1 c1 wr (by have := HAD.out.1; have := HLA.out; omega) (Bnd.mono HAD.out.2.2.1 (by decide)) (by rw [HAD.out.1]; exact HR1.out) HCO.out.cells e1 e2
      rw [HAD.out.1, e3] at hcall
      have HCA := Lib.hid hcall
      clear hAD e1 e2 e3 hcall
      go_wp2_with fail
      refine HCA.out.mono ?_
      rintro e w2 ⟨⟨v2, rfl, hnew⟩, hB2⟩
      have HN := Lib.hid (hnew.mono HB.out.size)
      have HB2 := Lib.hid (belowVia hB2 HB.out)
      obtain ⟨g2, c2, rfl, _⟩ := hnew
      clear hB2
      go_wp2_with fail
      go_ret
      exact ⟨⟨_, rfl, HN.out⟩, HB2.out⟩
set_option maxRecDepth 100000 in
set_option maxHeartbeats 2000000 in
theorem plus_ge (A B : List Nat) (hA : DigB 10000 A) (hB : DigB 10000 B) (hlA : A.length ≤ 30000) (hlen : B.length ≤ A.length) (a b : Option Addr) (ca cb : Nat) (w : World)
    (_hra : Room A.length ca) (hrb : Room B.length cb) (hva : CellsAt w a (ofN A)) (hvb : CellsAt w b (ofN B)) :
    Calls Tryz.prog 54 #[.slice a A.length ca, .slice b B.length cb] w fun e w' => (∃ v, e = .returned v ∧ MagNew w' w.heap.size v (digsL 10000 (leV 10000 A + leV 10000 B))) ∧ Below w.heap.size w w' := by
  have HDA := Lib.hid hA
  have HDB := Lib.hid hB
  have HVA := Lib.hid hva
  have HVB := Lib.hid hvb
  obtain ⟨m, hm⟩ : ∃ m, m = B.length := ⟨_, rfl⟩
  have HL : Hid (m ≤ A.length) := by show _ ≤ _; omega
  have hrb1 := hrb.1
  rw [← hm] at hrb1 ⊢
  have HM := Lib.hid hm
  have hmb : (m : Int) ≤ 30000 := by omega
  have HLA : Hid (A.length ≤ 30000) := hlA
  clear hA hB hva hvb hm hlen hrb
  go_enter Tryz.func54, Tryz.ntmps54
  have hmA : (m : Int) ≤ A.length := by have := HL.out; omega
  go_wp2_with fail
  refine (clone_any A (by omega) a ca w HVA.out).mono ?_
  rintro e w1 ⟨⟨v, rfl, hown⟩, hB1⟩
  obtain ⟨a1, c1, rfl, hr1, hC1⟩ := cols_clone hown
  have hr1' := hr1.1
  have HR1 := Lib.hid hr1
  have HC1 := Lib.hid hC1
  have HB1 := Lib.hid hB1
  clear hown hr1 hC1 hB1
  go_wp2_with fail
  go_loopw [19] (fun i wr => ∃ (k : Nat) (C : List Int), k ≤ m ∧ i = .int .i64 k ∧ Added 20000 1 A B k C ∧ ColsAt wr w.heap.size a1 C ∧ Below w.heap.size w wr) (fun i _ => m - (intOf i).toNat)
  case atStart => exact ⟨0, _, by omega, rfl, Added.start (by decide) HDA.out B, HC1.out, HB1.out⟩
  case round =>
    obtain ⟨k, C, hk, rfl, hadd, hcols, hB⟩ := hrel
    have HAD := Lib.hid hadd
    have HCO := Lib.hid hcols
    have HB := Lib.hid hB
    clear hadd hcols hB
    by_cases hlt : k < m
    · have hlt' : (k : Int) < m := by omega
      have hkA : (k : Int) < A.length := by have := HL.out; omega
      have hCl := HAD.out.1
      obtain ⟨g, hg, rfl, hrow⟩ := HCO.out.at (k := k) (by omega)
      obtain ⟨hcx, hfx⟩ := hrow k (by omega)
      have hnil : ofN B ≠ [] := fun e => by
        have h1 : (ofN B).length = 0 := by rw [e]; rfl
        rw [ofN_len] at h1; have := HM.out; omega
      obtain ⟨gb, ob, rfl, hcell⟩ := HVB.out.resolve_left hnil
      have hby := hcell k (by rw [ofN_len]; have := HM.out; omega)
      rw [ofN_get] at hby
      have hbx := keptBelow HB.out hby
      have hyb := digB_get HDB.out (j := k) (by have := HM.out; omega)
      have hxa := digB_get HDA.out (j := k) (by omega)
      have hxe := HAD.out.2.2.2 k (Nat.le_refl _)
      have e1 : ((A.getD k 0 : Nat) : Int) + 1 * ((B.getD k 0 : Nat) : Int) = (A.getD k 0 : Nat) + (B.getD k 0 : Nat) := by omega
      have hst := HAD.out.step (by have := HM.out; omega) (by have := HL.out; have := HM.out; omega) (by rw [e1]; omega)
      have hrow2 := hrow.set k (by omega) (((A.getD k 0 : Nat) : Int) + 1 * (B.getD k 0 : Nat))
      have hbel := below_set HB.out hg (i := k) (.int .i64 (((A.getD k 0 : Nat) : Int) + 1 * (B.getD k 0 : Nat)))
      rw [e1] at hst hrow2 hbel
      rw [hxe] at hcx
      have hxa' : ((A.getD k 0 : Nat) : Int) < 10000 := by omega
      have HST := Lib.hid hst
      have HRW := Lib.hid hrow2
      have HBE := Lib.hid hbel
      have hyb' : ((B.getD k 0 : Nat) : Int) < 10000 := by omega
      clear hst hrow hrow2 hbel hcell hnil e1 hby hyb hCl hxa hxe
      generalize A.getD k 0 = x at *
      generalize B.getD k 0 = y at *
      go_wp2_with fail
      go_roundw
      case rel => exact ⟨k + 1, _, by omega, by go_num, HST.out, .inr ⟨g, hg, rfl, HRW.out⟩, HBE.out⟩
      case measure => simp [intOf]; omega
    · obtain rfl : k = m := by omega
      have hAD := HAD.out
      rw [HM.out] at hAD
      obtain ⟨e1, e2, e3⟩ := plus_end HDA.out HDB.out (by have := HL.out; have := HM.out; omega) hAD
      have hcall := carried_any C a1 c1 wr (by have := HAD.out.1; have := HLA.out; omega) (Bnd.mono HAD.out.2.2.1 (by decide)) (by rw [HAD.out.1]; exact HR1.out) HCO.out.cells e1 e2
      rw [HAD.out.1, e3] at hcall
      have HCA := Lib.hid hcall
      clear hAD e1 e2 e3 hcall
      go_wp2_with fail
      refine HCA.out.mono ?_
      rintro e w2 ⟨⟨v2, rfl, hnew⟩, hB2⟩
      have HN := Lib.hid (hnew.mono HB.out.size)
      have HB2 := Lib.hid (belowVia hB2 HB.out)
      obtain ⟨g2, c2, rfl, _⟩ := hnew
      clear hB2
      go_wp2_with fail
      go_ret
      exact ⟨⟨_, rfl, HN.out⟩, HB2.out⟩
set_option maxRecDepth 100000 in
set_option maxHeartbeats 2000000 in
theorem plus_lt (A B : List Nat) (hA : DigB 10000 A) (hB : DigB 10000 B) (hlA : A.length ≤ 30000) (hlen : B.length < A.length) (a b : Option Addr) (ca cb : Nat) (w : World)
    (_hra : Room A.length ca) (hrb : Room B.length cb) (hva : CellsAt w a (ofN A)) (hvb : CellsAt w b (ofN B)) :
    Calls Tryz.prog 54 #[.slice b B.length cb, .slice a A.length ca] w fun e w' => (∃ v, e = .returned v ∧ MagNew w' w.heap.size v (digsL 10000 (leV 10000 A + leV 10000 B))) ∧ Below w.heap.size w w' := by
  have HDA := Lib.hid hA
  have HDB := Lib.hid hB
  have HVA := Lib.hid hva
  have HVB := Lib.hid hvb
  obtain ⟨m, hm⟩ : ∃ m, m = B.length := ⟨_, rfl⟩
  have HL : Hid (m ≤ A.length) := by show _ ≤ _; omega
  have hmA : (m : Int) < A.length := by omega
  have hrb1 := hrb.1
  rw [← hm] at hrb1 ⊢
  have HM := Lib.hid hm
  have hmb : (m : Int) ≤ 30000 := by omega
  have HLA : Hid (A.length ≤ 30000) := hlA
  clear hA hB hva hvb hm hlen hrb
  go_enter Tryz.func54, Tryz.ntmps54
  go_wp2_with fail
  refine (clone_any A (by omega) a ca w HVA.out).mono ?_
  rintro e w1 ⟨⟨v, rfl, hown⟩, hB1⟩
  obtain ⟨a1, c1, rfl, hr1, hC1⟩ := cols_clone hown
  have hr1' := hr1.1
  have HR1 := Lib.hid hr1
  have HC1 := Lib.hid hC1
  have HB1 := Lib.hid hB1
  clear hown hr1 hC1 hB1
  go_wp2_with fail
  go_loopw [19] (fun i wr => ∃ (k : Nat) (C : List Int), k ≤ m ∧ i = .int .i64 k ∧ Added 20000 1 A B k C ∧ ColsAt wr w.heap.size a1 C ∧ Below w.heap.size w wr) (fun i _ => m - (intOf i).toNat)
  case atStart => exact ⟨0, _, by omega, rfl, Added.start (by decide) HDA.out B, HC1.out, HB1.out⟩
  case round =>
    obtain ⟨k, C, hk, rfl, hadd, hcols, hB⟩ := hrel
    have HAD := Lib.hid hadd
    have HCO := Lib.hid hcols
    have HB := Lib.hid hB
    clear hadd hcols hB
    by_cases hlt : k < m
    · have hlt' : (k : Int) < m := by omega
      have hkA : (k : Int) < A.length := by have := HL.out; omega
      have hCl := HAD.out.1
      obtain ⟨g, hg, rfl, hrow⟩ := HCO.out.at (k := k) (by omega)
      obtain ⟨hcx, hfx⟩ := hrow k (by omega)
      have hnil : ofN B ≠ [] := fun e => by
        have h1 : (ofN B).length = 0 := by rw [e]; rfl
        rw [ofN_len] at h1; have := HM.out; omega
      obtain ⟨gb, ob, rfl, hcell⟩ := HVB.out.resolve_left hnil
      have hby := hcell k (by rw [ofN_len]; have := HM.out; omega)
      rw [ofN_get] at hby
      have hbx := keptBelow HB.out hby
      have hyb := digB_get HDB.out (j := k) (by have := HM.out; omega)
      have hxa := digB_get HDA.out (j := k) (by omega)
      have hxe := HAD.out.2.2.2 k (Nat.le_refl _)
      have e1 : ((A.getD k 0 : Nat) : Int) + 1 * ((B.getD k 0 : Nat) : Int) = (A.getD k 0 : Nat) + (B.getD k 0 : Nat) := by omega
      have hst := HAD.out.step (by have := HM.out; omega) (by have := HL.out; have := HM.out; omega) (by rw [e1]; omega)
      have hrow2 := hrow.set k (by omega) (((A.getD k 0 : Nat) : Int) + 1 * (B.getD k 0 : Nat))
      have hbel := below_set HB.out hg (i := k) (.int .i64 (((A.getD k 0 : Nat) : Int) + 1 * (B.getD k 0 : Nat)))
      rw [e1] at hst hrow2 hbel
      rw [hxe] at hcx
      have hxa' : ((A.getD k 0 : Nat) : Int) < 10000 := by omega
      have HST := Lib.hid hst
      have HRW := Lib.hid hrow2
      have HBE := Lib.hid hbel
      have hyb' : ((B.getD k 0 : Nat) : Int) < 10000 := by omega
      clear hst hrow hrow2 hbel hcell hnil e1 hby hyb hCl hxa hxe
      generalize A.getD k 0 = x at *
      generalize B.getD k 0 = y at *
      go_wp2_with fail
      go_roundw
      case rel => exact ⟨k + 1, _, by omega, by go_num, HST.out, .inr ⟨g, hg, rfl, HRW.out⟩, HBE.out⟩
      case measure => simp [intOf]; omega
    · obtain rfl : k = m := by omega
      have hAD := HAD.out
      rw [HM.out] at hAD
      obtain ⟨e1, e2, e3⟩ := plus_end HDA.out HDB.out (by have := HL.out; have := HM.out; omega) hAD
      have hcall := carried_any C a1 c1 wr (by have := HAD.out.1; have := HLA.out; omega) (Bnd.mono HAD.out.2.2.1 (by decide)) (by rw [HAD.out.1]; exact HR1.out) HCO.out.cells e1 e2
      rw [HAD.out.1, e3] at hcall
      have HCA := Lib.hid hcall
      clear hAD e1 e2 e3 hcall
      go_wp2_with fail
      refine HCA.out.mono ?_
      rintro e w2 ⟨⟨v2, rfl, hnew⟩, hB2⟩
      have HN := Lib.hid (hnew.mono HB.out.size)
      have HB2 := Lib.hid (belowVia hB2 HB.out)
      obtain ⟨g2, c2, rfl, _⟩ := hnew
      clear hB2
      go_wp2_with fail
      go_ret
      exact ⟨⟨_, rfl, HN.out⟩, HB2.out⟩
set_option maxRecDepth 100000 in
set_option maxHeartbeats 2000000 in
theorem scaled_any (A : List Nat) (f : Nat) (hA : DigB 10000 A) (hf : f ≤ 10000) (hlA : A.length ≤ 30000) (a : Option Addr) (ca : Nat) (w : World) (hva : CellsAt w a (ofN A)) :
    Calls Tryz.prog 74 #[.slice a A.length ca, .int .i64 f] w fun e w' => (∃ v, e = .returned v ∧ MagNew w' w.heap.size v (digsL 10000 (leV 10000 A * f))) ∧ Below w.heap.size w w' := by
  have HDA := Lib.hid hA
  have HVA := Lib.hid hva
  have hfb : (f : Int) ≤ 10000 := by omega
  have HF : Hid (f ≤ 10000) := hf
  obtain ⟨m, hm⟩ : ∃ m, m = A.length := ⟨_, rfl⟩
  have HM := Lib.hid hm
  have hmb : (m : Int) ≤ 30000 := by omega
  have HLA : Hid (A.length ≤ 30000) := hlA
  have hcl := clone_any A (by omega) a ca w HVA.out
  rw [← hm] at hcl ⊢
  have HCL := Lib.hid hcl
  clear hA hva hm hf hcl hlA
  go_enter Tryz.func74, Tryz.ntmps74
  go_wp2_with fail
  refine HCL.out.mono ?_
  rintro e w1 ⟨⟨v, rfl, hown⟩, hB1⟩
  rw [HM.out] at hown
  obtain ⟨a1, c1, rfl, hr1, hC1⟩ := cols_clone hown
  have hr1' := hr1.1
  have HR1 := Lib.hid hr1
  have HC1 := Lib.hid hC1
  have HB1 := Lib.hid hB1
  rw [← HM.out] at hr1' ⊢
  clear hown hr1 hC1 hB1 HCL
  go_wp2_with fail
  go_loopw [11] (fun i wr => ∃ (k : Nat) (C : List Int), k ≤ m ∧ i = .int .i64 k ∧ Added 100000000 ((f : Int) - 1) A A k C ∧ ColsAt wr w.heap.size a1 C ∧ Below w.heap.size w wr) (fun i _ => m - (intOf i).toNat)
  case atStart => exact ⟨0, _, by omega, rfl, Added.start (by decide) HDA.out A, HC1.out, HB1.out⟩
  case round =>
    obtain ⟨k, C, hk, rfl, hadd, hcols, hB⟩ := hrel
    have HAD := Lib.hid hadd
    have HCO := Lib.hid hcols
    have HB := Lib.hid hB
    clear hadd hcols hB
    by_cases hlt : k < m
    · have hlt' : (k : Int) < m := by omega
      have hCl := HAD.out.1
      have hmA := HM.out
      obtain ⟨g, hg, rfl, hrow⟩ := HCO.out.at (k := k) (by omega)
      obtain ⟨hcx, hfx⟩ := hrow k (by omega)
      have hxa := digB_get HDA.out (j := k) (by omega)
      have hxe := HAD.out.2.2.2 k (Nat.le_refl _)
      have e1 : ((A.getD k 0 : Nat) : Int) + ((f : Int) - 1) * ((A.getD k 0 : Nat) : Int) = ((A.getD k 0 * f : Nat) : Int) := by rw [Int.natCast_mul, Int.sub_mul, Int.one_mul, Int.mul_comm (f : Int)]; omega
      have hmul : A.getD k 0 * f ≤ 9999 * 10000 := Nat.mul_le_mul (by omega) HF.out
      have hst := HAD.out.step (by omega) (Nat.le_refl _) (by rw [e1]; omega)
      have hrow2 := hrow.set k (by omega) (((A.getD k 0 : Nat) : Int) + ((f : Int) - 1) * ((A.getD k 0 : Nat) : Int))
      have hbel := below_set HB.out hg (i := k) (.int .i64 (((A.getD k 0 : Nat) : Int) + ((f : Int) - 1) * ((A.getD k 0 : Nat) : Int)))
      rw [e1] at hst hrow2 hbel
      rw [hxe] at hcx
      have hxa' : ((A.getD k 0 : Nat) : Int) < 10000 := by omega
      have HST := Lib.hid hst
      have HRW := Lib.hid hrow2
      have HBE := Lib.hid hbel
      obtain ⟨z, hz⟩ : ∃ z, z = A.getD k 0 * f := ⟨_, rfl⟩
      have hzz : ((A.getD k 0 : Nat) : Int) * (f : Int) = (z : Nat) := by rw [hz, Int.natCast_mul]
      have hzb : (z : Int) ≤ 100000000 := by omega
      rw [← hz] at HST HRW HBE
      clear hst hrow hrow2 hbel e1 hCl hxa hxe hmul hz hmA
      generalize A.getD k 0 = x at *
      go_wp2_with fail
      go_roundw
      case rel => exact ⟨k + 1, _, by omega, by go_num, HST.out, .inr ⟨g, hg, rfl, HRW.out⟩, HBE.out⟩
      case measure => simp [intOf]; omega
    · obtain rfl : k = m := by omega
      have hAD := HAD.out
      rw [HM.out] at hAD
      obtain ⟨e1, e2, e3⟩ := scaled_end HDA.out HF.out hAD
      have hcall := carried_any C a1 c1 wr (by have := HAD.out.1; have := HLA.out; omega) (Bnd.mono HAD.out.2.2.1 (by decide)) (by rw [HAD.out.1]; exact HR1.out) HCO.out.cells e1 e2
      rw [HAD.out.1, e3, ← HM.out] at hcall
      have HCA := Lib.hid hcall
      clear hAD e1 e2 e3 hcall
      go_wp2_with fail
      refine HCA.out.mono ?_
      rintro e w2 ⟨⟨v2, rfl, hnew⟩, hB2⟩
      have HN := Lib.hid (hnew.mono HB.out.size)
      have HB2 := Lib.hid (belowVia hB2 HB.out)
      obtain ⟨g2, c2, rfl, _⟩ := hnew
      clear hB2
      go_wp2_with fail
      go_ret
      exact ⟨⟨_, rfl, HN.out⟩, HB2.out⟩
theorem plus_any (A B : List Nat) (hA : DigB 10000 A) (hB : DigB 10000 B) (hlA : A.length ≤ 30000) (hlB : B.length ≤ 30000) (a b : Option Addr) (ca cb : Nat) (w : World)
    (hra : Room A.length ca) (hrb : Room B.length cb) (hva : CellsAt w a (ofN A)) (hvb : CellsAt w b (ofN B)) :
    Calls Tryz.prog 54 #[.slice a A.length ca, .slice b B.length cb] w fun e w' => (∃ v, e = .returned v ∧ MagNew w' w.heap.size v (digsL 10000 (leV 10000 A + leV 10000 B))) ∧ Below w.heap.size w w' := by
  rcases Nat.lt_or_ge A.length B.length with h | h
  · have := plus_lt B A hB hA hlB h b a cb ca w hrb hra hvb hva
    rwa [Nat.add_comm] at this
  · exact plus_ge A B hA hB hlA h a b ca cb w hra hrb hva hvb
end Go.Proofs.YtggkbeppfpgkaaaGreatDoor
