/- The contract of the closure of the root's search. -/
import Derived.Test.YtggkbeppfpgkaaaGreatDoorIntQuo
import Derived.Test.YtggkbeppfpgkaaaGreatDoorIntText
namespace Go.Proofs.YtggkbeppfpgkaaaGreatDoor
open Go.RowKit Putlog

/-- What the closure has at hand. -/
structure RT (w0 w : World) (bR bI bA gR : Nat) (a : Option Addr) (ca : Nat) (A R : List Nat) (i : Nat) : Prop where
  hR : w.cell? ⟨bR, 0, none⟩ = some (.slice (some ⟨gR, 0, none⟩) R.length R.length)
  hI : w.cell? ⟨bI, 0, none⟩ = some (.int .i64 (i : Nat))
  hA : w.cell? ⟨bA, 0, none⟩ = some (.slice a A.length ca)
  hca : CellsAt w a (ofN A)
  row : ∃ v, RowAt w gR (ofN (R.set i v))
  bel : Below w0.heap.size w0 w
theorem RT.via {w0 w w' : World} {bR bI bA gR : Nat} {a : Option Addr} {ca : Nat} {A R : List Nat} {i : Nat} (hB : Below w.heap.size w w') (h : RT w0 w bR bI bA gR a ca A R i) : RT w0 w' bR bI bA gR a ca A R i :=
  ⟨keptBelow hB h.hR, keptBelow hB h.hI, keptBelow hB h.hA, h.hca.via hB, let ⟨v, hv⟩ := h.row; ⟨v, hv.via hB⟩, belowVia hB h.bel⟩
/-- The row of the root lies apart. -/
structure Apart (w0 : World) (bR bI bA gR : Nat) (a : Option Addr) (A : List Nat) : Prop where
  nr : gR ≠ bR
  ni : gR ≠ bI
  na : gR ≠ bA
  nc : ofN A ≠ [] → ∃ g o, a = some ⟨g, o, none⟩ ∧ g ≠ gR
  nb : w0.heap.size ≤ gR
theorem cell_other {w : World} {g b i : Nat} {v x : Value} (h : w.cell? ⟨b, 0, none⟩ = some x) (hne : g ≠ b) : (w.setCell ⟨g, i, none⟩ v).cell? ⟨b, 0, none⟩ = some x := by
  rw [World.cell?_setCell_other _ _ _ _ (fun e => hne (congrArg Addr.block e))]; exact h
theorem RT.store {w0 w : World} {bR bI bA gR : Nat} {a : Option Addr} {ca : Nat} {A R : List Nat} {i : Nat} (h : RT w0 w bR bI bA gR a ca A R i) (k : Apart w0 bR bI bA gR a A) (hi : i < R.length) (x : Nat) :
    RT w0 (w.setCell ⟨gR, i, none⟩ (.int .i64 (x : Nat))) bR bI bA gR a ca A R i ∧ RowAt (w.setCell ⟨gR, i, none⟩ (.int .i64 (x : Nat))) gR (ofN (R.set i x)) := by
  obtain ⟨v, hv⟩ := h.row
  have hr := row_ofN_set (q := x) hv (i := i) (by rw [List.length_set]; exact hi)
  rw [List.set_set] at hr
  exact ⟨⟨cell_other h.hR k.nr, cell_other h.hI k.ni, cell_other h.hA k.na, cells_set_other h.hca k.nc, ⟨x, hr⟩, below_set h.bel k.nb _⟩, hr⟩
theorem square_len {R : List Nat} (h : DigB 10000 R) : (digsL 10000 (leV 10000 R * leV 10000 R)).length ≤ R.length + R.length := by
  refine digsL_len_le ?_
  have h1 := leV_lt h
  rw [Nat.pow_add]
  exact Nat.mul_lt_mul_of_lt_of_le h1 (Nat.le_of_lt h1) (Nat.pow_pos (by decide))
theorem digB_set {R : List Nat} (h : DigB 10000 R) (i : Nat) {x : Nat} (hx : x < 10000) : DigB 10000 (R.set i x) := fun y hy => by
  rcases List.mem_or_eq_of_mem_set hy with hy | hy
  · exact h y hy
  · rw [hy]; exact hx
set_option maxRecDepth 100000 in
set_option maxHeartbeats 8000000 in
theorem root1_any (w0 : World) (bR bI bA gR : Nat) (a : Option Addr) (ca : Nat) (A R : List Nat) (i h : Nat) (hA : DigB 10000 A) (nA : Norm A) (hR : DigB 10000 R) (hlA : A.length ≤ 10000) (hlR : R.length ≤ 1000) (hra : Room A.length ca) (hi : i < R.length) (hh : h < 10000)
    (k : Apart w0 bR bI bA gR a A) (w : World) (hq : RT w0 w bR bI bA gR a ca A R i) :
    Calls Tryz.prog 64 #[.int .i64 h, .pointer (some ⟨bR, 0, none⟩), .pointer (some ⟨bI, 0, none⟩), .pointer (some ⟨bA, 0, none⟩)] w fun e w' => e = .returned (.bool (decide (leV 10000 A < leV 10000 (R.set i h) * leV 10000 (R.set i h)))) ∧ RT w0 w' bR bI bA gR a ca A R i := by
  have HQ := Lib.hid hq
  have hcR := hq.hR
  have hcI := hq.hI
  obtain ⟨v, hv⟩ := hq.row
  obtain ⟨hcX, hfX⟩ := hv i (by rw [ofN_len, List.length_set]; exact hi)
  obtain ⟨hq1, hr1⟩ := hq.store k hi h
  have HQ1 := Lib.hid hq1
  have HR1 := Lib.hid hr1
  have hd1 := digB_set hR i hh
  have hsl := square_len hd1
  have hl1 : (R.set i h).length = R.length := List.length_set
  rw [hl1] at hsl
  obtain ⟨S, hS⟩ : ∃ S, S = R.set i h := ⟨_, rfl⟩
  rw [← hS] at HR1 hd1 hsl hl1 ⊢
  have HT : Hid (∀ W : World, CellsAt W (some ⟨gR, 0, none⟩) (ofN S) → Calls Tryz.prog 58 #[.slice (some ⟨gR, 0, none⟩) R.length R.length, .slice (some ⟨gR, 0, none⟩) R.length R.length] W fun e w' => (∃ g c, e = .returned (.slice (some ⟨g, 0, none⟩) (digsL 10000 (leV 10000 S * leV 10000 S)).length c) ∧ Room (digsL 10000 (leV 10000 S * leV 10000 S)).length c ∧ CellsAt w' (some ⟨g, 0, none⟩) (ofN (digsL 10000 (leV 10000 S * leV 10000 S)))) ∧ Below W.heap.size W w') := by
    intro W hc
    have := times_any S S hd1 hd1 (by omega) (by omega) _ _ R.length R.length W (by rw [hl1]; exact ⟨Nat.le_refl _, by omega⟩) (by rw [hl1]; exact ⟨Nat.le_refl _, by omega⟩) hc hc
    rw [hl1] at this
    refine this.mono ?_
    rintro e w' ⟨⟨v, rfl, hn⟩, hb⟩
    obtain ⟨a', c', h1, h2, h3⟩ := hn.mag
    obtain ⟨g, c, rfl, _⟩ := hn
    cases h1
    exact ⟨⟨g, _, rfl, h2, h3⟩, hb⟩
  have HC : Hid (∀ (W : World) (g c : Nat), CellsAt W a (ofN A) → Room (digsL 10000 (leV 10000 S * leV 10000 S)).length c → CellsAt W (some ⟨g, 0, none⟩) (ofN (digsL 10000 (leV 10000 S * leV 10000 S))) →
      Calls Tryz.prog 55 #[.slice (some ⟨g, 0, none⟩) (digsL 10000 (leV 10000 S * leV 10000 S)).length c, .slice a A.length ca] W fun e w' => e = .returned (.int .i64 (cmpI ((leV 10000 S * leV 10000 S : Nat) : Int) (leV 10000 A : Nat))) ∧ Below W.heap.size W w') := by
    intro W g c h1 h2 h3
    have := compare_any (digsL 10000 (leV 10000 S * leV 10000 S)) A (digsL_dig (by decide) _) hA (digsL_norm (by decide) _) nA (by omega) (by omega) _ _ _ _ W h2 hra h3 h1
    rwa [leV_digsL (by decide)] at this
  have hgt := cmp_gt (leV 10000 S * leV 10000 S) (leV 10000 A)
  have hin : (i : Int) < R.length := by omega
  have hRb : (R.length : Int) ≤ 1000 := by omega
  generalize leV 10000 S * leV 10000 S = P at *
  generalize digsL 10000 P = D at *
  generalize cmpI (P : Int) (leV 10000 A : Nat) = cv at *
  generalize decide (leV 10000 A < P) = T at *
  clear hA nA hR hlA hlR hra hi hh k hq hv hq1 hr1 hd1 hsl hS
  go_enter Tryz.func64, Tryz.ntmps64
  go_wp2_with fail
  have hcR1 := HQ1.out.hR
  have hcA1 := HQ1.out.hA
  generalize w.setCell ⟨gR, i, none⟩ (.int .i64 (h : Nat)) = w1 at *
  clear hcR hcI hcX hfX
  go_region_held3 (fun w' => w'.cell? ⟨bR, 0, none⟩ = some (.slice (some ⟨gR, 0, none⟩) R.length R.length) ∧ w'.cell? ⟨bA, 0, none⟩ = some (.slice a A.length ca)) (first | exact ⟨hcR1, hcA1⟩ | exact ⟨keptBelow hB2 hcR1, keptBelow hB2 hcA1⟩ | exact ⟨keptBelow hB3 (keptBelow hB2 hcR1), keptBelow hB3 (keptBelow hB2 hcA1)⟩) (first
    | (go_at_call 58; (with_reducible refine (HT.out _ ?_).mono ?_); exact HR1.out.cells; rintro e w2 ⟨⟨g2, c2, rfl, hr2, hc2⟩, hB2⟩)
    | (go_at_call 55; (with_reducible refine (HC.out _ _ _ ?_ hr2 ?_).mono ?_); exact CellsAt.via hB2 HQ1.out.hca; exact hc2; rintro e w3 ⟨rfl, hB3⟩))
  go_wp2_with fail
  go_ret
  exact ⟨rfl, (HQ1.out.via (undrew hB2)).via hB3⟩
end Go.Proofs.YtggkbeppfpgkaaaGreatDoor
