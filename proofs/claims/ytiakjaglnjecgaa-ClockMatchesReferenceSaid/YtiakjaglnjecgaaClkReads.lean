/- The contract of Reads. -/
import Derived.Shelf.Abstract
import Derived.Test.YtiakjaglnjecgaaClkAt
namespace Go.Proofs.Ytiakjaglnjecgaa
open Go.RowKit Putlog Go.Shelf

def FirstsN (p : Nat → Bool) (n r : Nat) : Prop := r ≤ n ∧ (r = 0 ∨ p (r - 1) = false) ∧ (r = n ∨ p r = true)

set_option maxRecDepth 100000 in
set_option maxHeartbeats 2000000 in
/-- sort.Search over a function value that answers p and keeps I. -/
theorem search_any {g : Nat} {lb : Array Value} (eg : ∀ args w, (callFunc g args).run Try.prog w = .ok (.enter g args) w) (n : Nat) (hn : n ≤ 20000000) (p : Nat → Bool) (I : World → Prop) (w : World) (h0 : I w)
    (hstep : ∀ (h : Nat) (w : World), h < n → I w → Calls Try.prog g (#[.int .i64 h] ++ lb) w fun e w' => e = .returned (.bool (p h)) ∧ I w') :
    Calls Try.prog 39 #[.int .i64 n, .func (.func g) #[] lb] w fun e w' => ∃ r : Nat, e = .returned (.int .i64 r) ∧ FirstsN p n r ∧ I w' := by
  have HS := Lib.hid hstep
  have H0 := Lib.hid h0
  have hnb : (n : Int) ≤ 20000000 := by omega
  clear hstep h0
  go_enter Try.func39, Try.ntmps39
  go_wp2_with fail
  go_loopw [5, 6] (fun a b wr => ∃ i j : Nat, i ≤ j ∧ j ≤ n ∧ a = .int .i64 i ∧ b = .int .i64 j ∧ (i = 0 ∨ p (i - 1) = false) ∧ (j = n ∨ p j = true) ∧ I wr) (fun a b _ => (intOf b - intOf a).toNat)
  case atStart => exact ⟨0, n, by omega, by omega, rfl, rfl, .inl rfl, .inl rfl, H0.out⟩
  case round =>
    obtain ⟨i, j, hij, hjn, rfl, rfl, hi, hj, hI⟩ := hrel
    have HI := Lib.hid hI
    have HP := Lib.hid hi
    have HQ := Lib.hid hj
    clear hI hi hj
    have hjb : (j : Int) ≤ 20000000 := by omega
    by_cases hlt : i < j
    · have hlt' : (i : Int) < j := by omega
      obtain ⟨h, hh⟩ : ∃ h, h = (i + j) / 2 := ⟨_, rfl⟩
      have h1 : i ≤ h := by omega
      have h2 : h < j := by omega
      have hdiv : ((i : Int) + (j : Int)) / 2 = (h : Nat) := by omega
      have hhb : (h : Int) ≤ 20000000 := by omega
      have HC := Lib.hid (HS.out h wr (by omega) HI.out)
      clear hh HI
      obtain ⟨bv, hbv⟩ : ∃ bv, bv = p h := ⟨_, rfl⟩
      have HBV := Lib.hid hbv
      rw [← hbv] at HC
      clear hbv
      go_wp2_with fail
      refine HC.out.mono ?_
      rintro e w1 ⟨rfl, hI1⟩
      have HI1 := Lib.hid hI1
      clear hI1 HC
      cases bv with
      | true =>
        go_wp2_with fail
        go_roundw
        case rel => exact ⟨i, h, by omega, by omega, rfl, rfl, HP.out, .inr HBV.out.symm, HI1.out⟩
        case measure => simp [intOf]; omega
      | false =>
        go_wp2_with fail
        go_roundw
        case rel => exact ⟨h + 1, j, by omega, by omega, by go_num, rfl, .inr (by rw [Nat.add_sub_cancel]; exact HBV.out.symm), HQ.out, HI1.out⟩
        case measure => simp [intOf]; omega
    · obtain rfl : i = j := by omega
      go_wp2_with fail
      go_ret
      exact ⟨i, rfl, ⟨hjn, HP.out, HQ.out⟩, HI.out⟩

/-- What the searches keep: the clock and the true second in their boxes. -/
structure Kept (d : Int) (v : Value) (rs : List Rd) (t : Int) (q u : Nat) (w w' : World) : Prop where
  c0 : w'.cell? ⟨q, 0, none⟩ = some (.int .i64 d)
  c1 : w'.cell? ⟨q, 1, none⟩ = some v
  c2 : w'.cell? ⟨u, 0, none⟩ = some (.int .i64 t)
  rd : RdsAt w' v rs
  below : Below w.heap.size w w'
theorem Kept.via {d t : Int} {v : Value} {rs : List Rd} {q u : Nat} {w a b : World} (h : Kept d v rs t q u w a) (hB : Below a.heap.size a b) : Kept d v rs t q u w b :=
  ⟨keptBelow hB h.c0, keptBelow hB h.c1, keptBelow hB h.c2, h.rd.via hB, belowVia hB h.below⟩
theorem s3Keep {v w w1 : World} {p q : Nat} {x y z : Value} (h : w.cell? ⟨p, 0, none⟩ = some x ∧ w.cell? ⟨p, 1, none⟩ = some y ∧ w.cell? ⟨q, 0, none⟩ = some z ∧ Below v.heap.size v w) (hB : Below w.heap.size w w1) : w1.cell? ⟨p, 0, none⟩ = some x ∧ w1.cell? ⟨p, 1, none⟩ = some y ∧ w1.cell? ⟨q, 0, none⟩ = some z ∧ Below v.heap.size v w1 := ⟨keptBelow hB h.1, keptBelow hB h.2.1, keptBelow hB h.2.2.1, belowVia hB h.2.2.2⟩

set_option maxRecDepth 100000 in
set_option maxHeartbeats 2000000 in
theorem reach_any (d l t : Int) (rs : List Rd) (v : Value) (q u : Nat) (w0 w : World) (h : Kept d v rs t q u w0 w) (hv : validC d rs = true) (hl0 : 0 ≤ l) (hl1 : l ≤ 10000000) :
    Calls Try.prog 32 #[.int .i64 l, .pointer (some ⟨q, 0, none⟩), .pointer (some ⟨u, 0, none⟩)] w fun e w' => e = .returned (.bool (decide (t ≤ winG d l rs))) ∧ Kept d v rs t q u w0 w' := by
  have c0 := h.c0
  have c1 := h.c1
  have c2 := h.c2
  have HS := Lib.hid (fun w1 (hB : Below w.heap.size w w1) => shown_any d l rs v w1 (h.rd.via hB) hv hl0 hl1)
  have HK := Lib.hid h
  clear h hv
  generalize winF d l rs = f at *
  generalize winG d l rs = g at *
  have hfd : ∀ w, (Instr.field 58 (.agg #[.int .i64 f, .int .i64 g]) 1).run Try.prog w = .ok (.int .i64 g) w := fun w => by
    rfl
  go_enter Try.func32, Try.ntmps32
  go_wp2_with fail
  go_region_held3 (fun w' => w'.cell? ⟨q, 0, none⟩ = some (.int .i64 d) ∧ w'.cell? ⟨q, 1, none⟩ = some v ∧ w'.cell? ⟨u, 0, none⟩ = some (.int .i64 t) ∧ Below w.heap.size w w')
    (first | exact ⟨c0, c1, c2, (Below.refl _ _).drew⟩ | exact s3Keep (by assumption) hB3)
    ((go_at_call 29; (with_reducible refine (HS.out _ (And.right (And.right (And.right (by assumption))))).mono ?_); rintro e u3 ⟨rfl, hB3⟩))
  all_goals
    have HH : Hid (Below w.heap.size w u3) := And.right (And.right (And.right (by assumption)))
    go_wp2_with fail
    go_ret
    exact ⟨rfl, HK.out.via HH.out⟩

set_option maxRecDepth 100000 in
set_option maxHeartbeats 2000000 in
theorem pass_any (d l t : Int) (rs : List Rd) (v : Value) (q u : Nat) (w0 w : World) (h : Kept d v rs t q u w0 w) (hv : validC d rs = true) (hl0 : 0 ≤ l) (hl1 : l ≤ 10000000) :
    Calls Try.prog 33 #[.int .i64 l, .pointer (some ⟨q, 0, none⟩), .pointer (some ⟨u, 0, none⟩)] w fun e w' => e = .returned (.bool (decide (t < winF d l rs))) ∧ Kept d v rs t q u w0 w' := by
  have c0 := h.c0
  have c1 := h.c1
  have c2 := h.c2
  have HS := Lib.hid (fun w1 (hB : Below w.heap.size w w1) => shown_any d l rs v w1 (h.rd.via hB) hv hl0 hl1)
  have HK := Lib.hid h
  clear h hv
  generalize winF d l rs = f at *
  generalize winG d l rs = g at *
  have hfd : ∀ w, (Instr.field 58 (.agg #[.int .i64 f, .int .i64 g]) 0).run Try.prog w = .ok (.int .i64 f) w := fun w => by
    rfl
  go_enter Try.func33, Try.ntmps33
  go_wp2_with fail
  go_region_held3 (fun w' => w'.cell? ⟨q, 0, none⟩ = some (.int .i64 d) ∧ w'.cell? ⟨q, 1, none⟩ = some v ∧ w'.cell? ⟨u, 0, none⟩ = some (.int .i64 t) ∧ Below w.heap.size w w')
    (first | exact ⟨c0, c1, c2, (Below.refl _ _).drew⟩ | exact s3Keep (by assumption) hB3)
    ((go_at_call 29; (with_reducible refine (HS.out _ (And.right (And.right (And.right (by assumption))))).mono ?_); rintro e u3 ⟨rfl, hB3⟩))
  all_goals
    have HH : Hid (Below w.heap.size w u3) := And.right (And.right (And.right (by assumption)))
    go_wp2_with fail
    go_ret
    exact ⟨rfl, HK.out.via HH.out⟩

set_option maxRecDepth 100000 in
set_option maxHeartbeats 2000000 in
theorem local_any {g : Nat} {lb : Array Value} (eg : ∀ args w, (callFunc g args).run Try.prog w = .ok (.enter g args) w) (p : Nat → Bool) (I : World → Prop) (w : World) (h0 : I w)
    (hstep : ∀ (h : Nat) (w : World), h < 10000001 → I w → Calls Try.prog g (#[.int .i64 h] ++ lb) w fun e w' => e = .returned (.bool (p h)) ∧ I w') :
    Calls Try.prog 31 #[.func (.func g) #[] lb] w fun e w' => ∃ r : Nat, e = .returned (.int .i64 r) ∧ FirstsN p 10000001 r ∧ I w' := by
  have HS := Lib.hid (search_any eg 10000001 (by omega) p I w h0 hstep)
  clear hstep h0 eg
  go_enter Try.func31, Try.ntmps31
  go_wp2_with fail
  refine HS.out.mono ?_
  rintro e w1 ⟨r, rfl, hr, hI⟩
  have HR := Lib.hid hr
  have HI := Lib.hid hI
  clear hr hI HS
  go_wp2_with fail
  go_ret
  exact ⟨r, rfl, HR.out, HI.out⟩

theorem firstI_of {p : Int → Prop} [DecidablePred p] {n r : Nat} (hm : ∀ l m, l ≤ m → p l → p m) (h : FirstsN (fun k : Nat => decide (p (k : Int))) n r) : FirstI p n r := by
  obtain ⟨h1, h2, h3⟩ := h
  refine FirstI.mk hm (by omega) (by omega) ?_ ?_
  · rcases h2 with h2 | h2
    · left; omega
    · by_cases hz : r = 0
      · left; omega
      · right
        have := of_decide_eq_false h2
        rwa [show ((r - 1 : Nat) : Int) = (r : Int) - 1 by omega] at this
  · rcases h3 with h3 | h3
    · left; omega
    · right; exact of_decide_eq_true h3

/-- What Reads answers. -/
def ReadsE (d : Int) (rs : List Rd) (t : Int) (e : Ending) : Prop := ∃ a b, ReadsIs d rs t a b ∧ ((a < b ∧ e = .returned (.tuple #[.int .i64 a, .int .i64 (b - 1), .int .i64 0])) ∨ (b ≤ a ∧ e = .returned (.tuple #[.int .i64 0, .int .i64 0, .int .i64 50])))

set_option maxRecDepth 100000 in
set_option maxHeartbeats 2000000 in
theorem reads_ok (d t : Int) (rs : List Rd) (v : Value) (w : World) (h : RdsAt w v rs) (hv : validC d rs = true) (ht0 : 0 ≤ t) (ht1 : t ≤ 10000000) :
    Calls Try.prog 16 #[.agg #[.int .i64 d, v], .int .i64 t] w fun e w' => ReadsE d rs t e ∧ Below w.heap.size w w' := by
  have HU := Lib.hid (upOne_iff.2 ⟨ht0, ht1⟩)
  have HV := Lib.hid (fun w h => valid_any d rs v w h)
  rw [hv] at HV
  have HVV := Lib.hid hv
  have x1 := alloc_below w (.cells #[.int .i64 d, v] 24)
  have z1 : (w.alloc (.cells #[.int .i64 d, v] 24)).heap.size = w.heap.size + 1 := by simp
  have y0 := cell_rowN w #[.int .i64 d, v] 24 0 rfl
  have y1 := cell_rowN w #[.int .i64 d, v] 24 1 rfl
  replace h := h.via x1
  go_enter Try.func16, Try.ntmps16
  go_wp2_with fail
  generalize w.alloc (.cells #[.int .i64 d, v] 24) = wa at *
  have x2 := alloc_below wa (.cells #[.int .i64 t] 3)
  have y2 := cell_rowN wa #[.int .i64 t] 3 0 rfl
  rw [z1] at y2
  have HK : Hid (Kept d v rs t w.heap.size (w.heap.size + 1) w (wa.alloc (.cells #[.int .i64 t] 3))) := ⟨keptBelow x2 y0, keptBelow x2 y1, y2, h.via x2, belowVia x2 x1⟩
  clear x1 x2 y0 y1 y2 h z1 hv
  generalize wa.alloc (.cells #[.int .i64 t] 3) = wb at *
  refine (HV.out _ HK.out.rd).mono ?_
  rintro e w2 ⟨rfl, hB⟩
  have HK := Lib.hid (HK.out.via hB)
  have y2 := HK.out.c2
  clear hB HV
  go_wp2_with fail
  refine (up_one 10000000 t _ _ _ true HU.out (nums_one _ _ _ (by simp))).mono ?_
  rintro e w3 ⟨rfl, rfl⟩
  have HK := Lib.hid (HK.out.via (alloc_below w2 (.cells #[.int .i64 t] 3)))
  clear y2
  generalize w2.alloc (.cells #[.int .i64 t] 3) = w3 at *
  obtain ⟨h0, h1, _, _⟩ := validC_iff.1 HVV.out
  have HL := Lib.hid (local_any (g := 32) (lb := #[.pointer (some ⟨w.heap.size, 0, none⟩), .pointer (some ⟨w.heap.size + 1, 0, none⟩)]) (enters_of Try.func32 (by kernel_rfl) rfl) (fun k : Nat => decide (t ≤ winG d k rs)) (fun w' => Kept d v rs t w.heap.size (w.heap.size + 1) w w') w3 HK.out
    (fun k w' hk hI => reach_any d k t rs v _ _ w w' hI HVV.out (by omega) (by omega)))
  have HM := Lib.hid (fun w3 hk => local_any (g := 33) (lb := #[.pointer (some ⟨w.heap.size, 0, none⟩), .pointer (some ⟨w.heap.size + 1, 0, none⟩)]) (enters_of Try.func33 (by kernel_rfl) rfl) (fun k : Nat => decide (t < winF d k rs)) (fun w' => Kept d v rs t w.heap.size (w.heap.size + 1) w w') w3 hk
    (fun k w' hk hI => pass_any d k t rs v _ _ w w' hI HVV.out (by omega) (by omega)))
  have H01 := Lib.hid (And.intro h0 h1)
  clear h0 h1
  go_wp2_with fail
  refine HL.out.mono ?_
  rintro e w4 ⟨a, rfl, ha, hk⟩
  have HK := Lib.hid hk
  have HA := Lib.hid (firstI_of (p := fun l => t ≤ winG d l rs) (fun l m hlm hp => Int.le_trans hp (winG_mono H01.out.1 H01.out.2 hlm rs)) ha)
  have HAB := Lib.hid ha.1
  clear ha hk HL
  go_wp2_with fail
  refine (HM.out _ HK.out).mono ?_
  rintro e w5 ⟨b, rfl, hb, hk⟩
  have HK := Lib.hid hk
  have HB := Lib.hid (firstI_of (p := fun l => t < winF d l rs) (fun l m hlm hp => Int.lt_of_lt_of_le hp (winF_mono H01.out.1 H01.out.2 hlm rs)) hb)
  have hbb := hb.1
  have hab := HAB.out
  clear hb hk HM HAB
  by_cases hc : a < b
  · have hc' : (a : Int) < b := by omega
    have hbb' : (b : Int) ≤ 10000001 := by omega
    clear hc hbb hab
    go_wp2_with fail
    go_ret3
    exact ⟨⟨a, b, ⟨HA.out, HB.out⟩, .inl ⟨by omega, rfl⟩⟩, HK.out.below⟩
  · have hc' : (b : Int) ≤ a := by omega
    clear hc hbb hab
    go_wp2_with fail
    go_ret3
    exact ⟨⟨a, b, ⟨HA.out, HB.out⟩, .inr ⟨by omega, rfl⟩⟩, HK.out.below⟩

set_option maxRecDepth 100000 in
set_option maxHeartbeats 2000000 in
theorem reads_no (d t : Int) (rs : List Rd) (v : Value) (w : World) (h : RdsAt w v rs) (hno : ¬ (validC d rs = true ∧ 0 ≤ t ∧ t ≤ 10000000)) :
    Calls Try.prog 16 #[.agg #[.int .i64 d, v], .int .i64 t] w fun e w' => e = .returned (.tuple #[.int .i64 0, .int .i64 0, .int .i64 50]) ∧ Below w.heap.size w w' := by
  have HV := Lib.hid (fun w h => valid_any d rs v w h)
  have x1 := alloc_below w (.cells #[.int .i64 d, v] 24)
  have z1 : (w.alloc (.cells #[.int .i64 d, v] 24)).heap.size = w.heap.size + 1 := by simp
  have y0 := cell_rowN w #[.int .i64 d, v] 24 0 rfl
  have y1 := cell_rowN w #[.int .i64 d, v] 24 1 rfl
  replace h := h.via x1
  cases hv : validC d rs with
  | false =>
    rw [hv] at HV
    clear hno hv
    go_enter Try.func16, Try.ntmps16
    go_wp2_with fail
    generalize w.alloc (.cells #[.int .i64 d, v] 24) = wa at *
    have x2 := alloc_below wa (.cells #[.int .i64 t] 3)
    have HX := Lib.hid (belowVia x2 x1)
    have HR := Lib.hid (h.via x2)
    clear x1 x2 y0 y1 h z1
    generalize wa.alloc (.cells #[.int .i64 t] 3) = wb at *
    refine (HV.out _ HR.out).mono ?_
    rintro e w2 ⟨rfl, hB⟩
    have HX := Lib.hid (belowVia hB HX.out)
    clear hB HV
    go_wp2_with fail
    go_ret3
    exact ⟨rfl, HX.out⟩
  | true =>
    rw [hv] at HV
    have HU := Lib.hid (upOne_no.2 (show t < 0 ∨ 10000000 < t by
      rcases Int.lt_or_le t 0 with k | k
      · exact .inl k
      · rcases Int.lt_or_le 10000000 t with m | m
        · exact .inr m
        · exact absurd ⟨hv, k, m⟩ hno))
    clear hno hv
    go_enter Try.func16, Try.ntmps16
    go_wp2_with fail
    generalize w.alloc (.cells #[.int .i64 d, v] 24) = wa at *
    have x2 := alloc_below wa (.cells #[.int .i64 t] 3)
    have y2 := cell_rowN wa #[.int .i64 t] 3 0 rfl
    rw [z1] at y2
    have HX := Lib.hid (belowVia x2 x1)
    have HR := Lib.hid (h.via x2)
    clear x1 x2 y0 y1 h z1
    generalize wa.alloc (.cells #[.int .i64 t] 3) = wb at *
    refine (HV.out _ HR.out).mono ?_
    rintro e w2 ⟨rfl, hB⟩
    have HX := Lib.hid (belowVia hB HX.out)
    replace y2 := keptBelow hB y2
    clear hB HV
    go_wp2_with fail
    refine (up_one 10000000 t _ _ _ false HU.out (nums_one _ _ _ (by simp))).mono ?_
    rintro e w3 ⟨rfl, rfl⟩
    go_wp2_with fail
    go_ret3
    exact ⟨rfl, HX.out.alloc HX.out.size _⟩
end Go.Proofs.Ytiakjaglnjecgaa
