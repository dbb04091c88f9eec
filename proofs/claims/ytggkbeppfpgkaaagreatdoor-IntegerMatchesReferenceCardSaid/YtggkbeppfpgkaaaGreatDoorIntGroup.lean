/- The contract of a group of a quotient: the binary search with its closure. -/
import Derived.Test.YtggkbeppfpgkaaaGreatDoorIntSearch
import Derived.Laws.EntriesVeiled
namespace Go.Proofs.YtggkbeppfpgkaaaGreatDoor
open Go.RowKit Putlog

/-- What the closure of the search has at hand. -/
structure QG (w : World) (bM bL bA : Nat) (a b : Option Addr) (ca cb : Nat) (A B : List Nat) (least : Nat) : Prop where
  hm : w.cell? ⟨bM, 0, none⟩ = some (.func (.func 74) #[.slice b B.length cb] #[])
  hl : w.cell? ⟨bL, 0, none⟩ = some (.int .i64 (least : Nat))
  ha : w.cell? ⟨bA, 0, none⟩ = some (.slice a A.length ca)
  hca : CellsAt w a (ofN A)
  hcb : CellsAt w b (ofN B)
theorem QG.via {w w' : World} {bM bL bA : Nat} {a b : Option Addr} {ca cb : Nat} {A B : List Nat} {least : Nat} (hB : Below w.heap.size w w') (h : QG w bM bL bA a b ca cb A B least) : QG w' bM bL bA a b ca cb A B least :=
  ⟨keptBelow hB h.hm, keptBelow hB h.hl, keptBelow hB h.ha, h.hca.via hB, h.hcb.via hB⟩
theorem cmp_gt (x y : Nat) : decide (0 < cmpI (x : Int) (y : Int)) = decide (y < x) := by
  unfold cmpI
  rcases Nat.lt_trichotomy x y with h | h | h
  · rw [if_pos (by omega)]; simp; omega
  · subst h; simp
  · rw [if_neg (by omega), if_pos (by omega)]; simp; omega
theorem digsL_len_le {v n : Nat} (h : v < 10000 ^ n) : (digsL 10000 v).length ≤ n := (digsL_len (by decide) v n).2 h
theorem scaled_len {B : List Nat} {f : Nat} (hB : DigB 10000 B) (hf : f ≤ 10000) : (digsL 10000 (leV 10000 B * f)).length ≤ B.length + 2 := by
  refine digsL_len_le ?_
  have h1 := leV_lt hB
  have h2 : leV 10000 B * f ≤ 10000 ^ B.length * 10000 := Nat.mul_le_mul (by omega) hf
  have h3 : 0 < 10000 ^ B.length := Nat.pow_pos (by decide)
  rw [Nat.pow_add]; omega
set_option maxRecDepth 100000 in
set_option maxHeartbeats 4000000 in
theorem group1_any (A B : List Nat) (hA : DigB 10000 A) (hB : DigB 10000 B) (nA : Norm A) (hlA : A.length ≤ 20000) (hlB : B.length ≤ 20000) (bM bL bA : Nat) (a b : Option Addr) (ca cb : Nat) (hra : Room A.length ca) (least h : Nat) (hf : least + h + 1 ≤ 10000) (w : World) (hq : QG w bM bL bA a b ca cb A B least) :
    Calls Tryz.prog 90 #[.int .i64 h, .pointer (some ⟨bM, 0, none⟩), .pointer (some ⟨bL, 0, none⟩), .pointer (some ⟨bA, 0, none⟩)] w fun e w' => e = .returned (.bool (decide (leV 10000 A < leV 10000 B * (least + h + 1)))) ∧ Below w.heap.size w w' := by
  have HQ := Lib.hid hq
  have hcM := hq.hm
  have hcL := hq.hl
  have hcA := hq.ha
  have hlb : (least : Int) ≤ 10000 := by omega
  have hhb : (h : Int) ≤ 10000 := by omega
  have HS : Hid (∀ W : World, CellsAt W b (ofN B) → Calls Tryz.prog 74 #[.slice b B.length cb, .int .i64 ((least + h + 1 : Nat) : Int)] W fun e w' => (∃ g c, e = .returned (.slice (some ⟨g, 0, none⟩) (digsL 10000 (leV 10000 B * (least + h + 1))).length c) ∧ Room (digsL 10000 (leV 10000 B * (least + h + 1))).length c ∧ CellsAt w' (some ⟨g, 0, none⟩) (ofN (digsL 10000 (leV 10000 B * (least + h + 1))))) ∧ Below W.heap.size W w') := by
    intro W hc
    have := scaled_any B (least + h + 1) hB hf (by omega) b cb W hc
    refine this.mono ?_
    rintro e w' ⟨⟨v, rfl, hn⟩, hb⟩
    obtain ⟨a', c', h1, h2, h3⟩ := hn.mag
    obtain ⟨g, c, rfl, _⟩ := hn
    cases h1
    exact ⟨⟨g, _, rfl, h2, h3⟩, hb⟩
  have HC : Hid (∀ (W : World) (g c : Nat), CellsAt W a (ofN A) → Room (digsL 10000 (leV 10000 B * (least + h + 1))).length c → CellsAt W (some ⟨g, 0, none⟩) (ofN (digsL 10000 (leV 10000 B * (least + h + 1)))) →
      Calls Tryz.prog 55 #[.slice (some ⟨g, 0, none⟩) (digsL 10000 (leV 10000 B * (least + h + 1))).length c, .slice a A.length ca] W fun e w' => e = .returned (.int .i64 (cmpI ((leV 10000 B * (least + h + 1) : Nat) : Int) (leV 10000 A : Nat))) ∧ Below W.heap.size W w') := by
    intro W g c h1 h2 h3
    have := compare_any (digsL 10000 (leV 10000 B * (least + h + 1))) A (digsL_dig (by decide) _) hA (digsL_norm (by decide) _) nA (by have := scaled_len hB hf; omega) (by omega) _ _ _ _ W h2 hra h3 h1
    rwa [leV_digsL (by decide)] at this
  have hw1 : IntKind.i64.wrap ((least : Int) + h) = ((least + h : Nat) : Int) := by rw [IntKind.wrap_i64]; omega
  have hw2 : IntKind.i64.wrap (((least + h : Nat) : Int) + 1) = ((least + h + 1 : Nat) : Int) := by rw [IntKind.wrap_i64]; omega
  generalize hs1 : least + h = s1 at *
  generalize hs2 : s1 + 1 = s2 at *
  have hgt := cmp_gt (leV 10000 B * s2) (leV 10000 A)
  generalize leV 10000 B * s2 = P at *
  generalize digsL 10000 P = D at *
  generalize cmpI (P : Int) (leV 10000 A : Nat) = cv at *
  generalize decide (leV 10000 A < P) = R at *
  clear hA hB nA hlA hlB hra hf hq hs1 hs2
  go_enter Tryz.func90, Tryz.ntmps90
  go_wp2_with fail
  go_region_held3 (fun w' => w'.cell? ⟨bM, 0, none⟩ = some (.func (.func 74) #[.slice b B.length cb] #[]) ∧ w'.cell? ⟨bL, 0, none⟩ = some (.int .i64 (least : Nat)) ∧ w'.cell? ⟨bA, 0, none⟩ = some (.slice a A.length ca)) (first | exact ⟨hcM, hcL, hcA⟩ | exact ⟨keptBelow hB1 hcM, keptBelow hB1 hcL, keptBelow hB1 hcA⟩ | exact ⟨keptBelow hB2 (keptBelow hB1 hcM), keptBelow hB2 (keptBelow hB1 hcL), keptBelow hB2 (keptBelow hB1 hcA)⟩) (first
    | (go_at_call 74; (with_reducible refine (HS.out _ ?_).mono ?_); exact HQ.out.hcb; rintro e w1 ⟨⟨g1, c1, rfl, hr1, hc1⟩, hB1⟩)
    | (go_at_call 55; (with_reducible refine (HC.out _ _ _ ?_ hr1 ?_).mono ?_); exact CellsAt.via hB1 HQ.out.hca; exact hc1; rintro e w2 ⟨rfl, hB2⟩))
  go_wp2_with fail
  go_ret
  exact ⟨rfl, belowVia hB2 ⟨hB1.os, hB1.tape, hB1.output, hB1.size, hB1.block⟩⟩

theorem leV_drop' {l : List Nat} (hd : DigB 10000 l) (k : Nat) : leV 10000 (l.drop k) = leV 10000 l / 10000 ^ k := by
  rcases Nat.lt_or_ge l.length k with h | h
  · have h1 := leV_lt hd
    have h2 : 10000 ^ l.length ≤ 10000 ^ k := Nat.pow_le_pow_right (by decide) (by omega)
    rw [List.drop_of_length_le (by omega), Nat.div_eq_of_lt (by omega)]; rfl
  · exact leV_drop (by decide) hd k h
theorem most_le {A B K : Nat} (hK : 0 < K) (h : A < 10000 * B) (h1 : 1 ≤ B / K) (h2 : K = 1 ∨ 10000 ≤ B / K) : A / K / (B / K) ≤ 10000 := by
  rcases h2 with rfl | h2
  · rw [Nat.div_one, Nat.div_one]
    have h3 : 0 < B := by rw [Nat.div_one] at h1; exact h1
    exact Nat.le_of_lt ((Nat.div_lt_iff_lt_mul h3).2 h)
  · have h3 : B < (B / K + 1) * K := by
      have := Nat.lt_div_mul_add hK (a := B); rw [Nat.add_mul]; omega
    have h4 : A / K < 10000 * (B / K + 1) := by
      refine (Nat.div_lt_iff_lt_mul hK).2 ?_
      rw [Nat.mul_assoc]
      exact Nat.lt_trans h ((Nat.mul_lt_mul_left (show 0 < 10000 by decide)).2 h3)
    have h5 : A / K / (B / K) < 10001 := by
      refine (Nat.div_lt_iff_lt_mul (by omega)).2 ?_
      have : 10001 * (B / K) = 10000 * (B / K) + B / K := by rw [show 10001 = 10000 + 1 from rfl, Nat.add_mul, Nat.one_mul]
      omega
    omega
theorem norm_pow {B : List Nat} (nB : Norm B) (h0 : B ≠ []) {k : Nat} (hk : k < B.length) : 10000 ^ (B.length - 1 - k) ≤ leV 10000 B / 10000 ^ k := by
  rcases norm_cases B with h | ⟨r, x, rfl⟩
  · exact absurd h h0
  · have h1 := norm_ge (B := 10000) (by decide) nB
    refine (Nat.le_div_iff_mul_le (Nat.pow_pos (by decide))).2 ?_
    rw [← Nat.pow_add]
    simp only [List.length_append, List.length_singleton] at hk ⊢
    rw [show r.length + 1 - 1 - k + k = r.length by omega]
    exact h1
theorem tdiv_nat (a b : Nat) : (a : Int).tdiv (b : Int) = ((a / b : Nat) : Int) := by rw [Int.tdiv_eq_ediv_of_nonneg (by omega)]; simp
theorem cell_box (W : World) (v : Value) (t : TypeId) : (W.alloc (.cells #[v] t)).cell? ⟨W.heap.size, 0, none⟩ = some v := by rw [World.cell?_alloc_new]; rfl
theorem qg_made {w : World} {a b : Option Addr} {ca cb : Nat} {A B : List Nat} {least : Nat} {t1 t2 t3 : TypeId} (hva : CellsAt w a (ofN A)) (hvb : CellsAt w b (ofN B)) :
    QG ((((w.alloc (.cells #[.slice a A.length ca] t1)).alloc (.cells #[.int .i64 (least : Nat)] t2)).alloc (.cells #[.func (.func 74) #[.slice b B.length cb] #[]] t3)).drew) (w.heap.size + 1 + 1) (w.heap.size + 1) w.heap.size a b ca cb A B least ∧
    Below w.heap.size w ((((w.alloc (.cells #[.slice a A.length ca] t1)).alloc (.cells #[.int .i64 (least : Nat)] t2)).alloc (.cells #[.func (.func 74) #[.slice b B.length cb] #[]] t3)).drew) := by
  have b1 : Below w.heap.size w (w.alloc (.cells #[.slice a A.length ca] t1)) := (Below.refl _ _).alloc (Nat.le_refl _) _
  have c1 := cell_box w (.slice a A.length ca) t1
  have z1 : (w.alloc (.cells #[.slice a A.length ca] t1)).heap.size = w.heap.size + 1 := by simp
  generalize w.alloc (.cells #[.slice a A.length ca] t1) = w1 at *
  have b2 : Below w1.heap.size w1 (w1.alloc (.cells #[.int .i64 (least : Nat)] t2)) := (Below.refl _ _).alloc (Nat.le_refl _) _
  have c2 := cell_box w1 (.int .i64 (least : Nat)) t2
  have z2 : (w1.alloc (.cells #[.int .i64 (least : Nat)] t2)).heap.size = w1.heap.size + 1 := by simp
  generalize w1.alloc (.cells #[.int .i64 (least : Nat)] t2) = w2 at *
  have b3 : Below w2.heap.size w2 (w2.alloc (.cells #[.func (.func 74) #[.slice b B.length cb] #[]] t3)) := (Below.refl _ _).alloc (Nat.le_refl _) _
  have c3 := cell_box w2 (.func (.func 74) #[.slice b B.length cb] #[]) t3
  generalize w2.alloc (.cells #[.func (.func 74) #[.slice b B.length cb] #[]] t3) = w3 at *
  have b4 := belowVia b3 (belowVia b2 b1)
  have b5 : Below w2.heap.size w2 w3.drew := ⟨b3.os, b3.tape, b3.output, b3.size, b3.block⟩
  rw [z1] at c2
  rw [z2, z1] at c3
  refine ⟨⟨c3, keptBelow b5 c2, keptBelow b5 (keptBelow b2 c1), hva.via ⟨b4.os, b4.tape, b4.output, b4.size, b4.block⟩, hvb.via ⟨b4.os, b4.tape, b4.output, b4.size, b4.block⟩⟩, ⟨b4.os, b4.tape, b4.output, b4.size, b4.block⟩⟩
set_option maxRecDepth 100000 in
set_option maxHeartbeats 4000000 in
theorem group_any (A B : List Nat) (hA : DigB 10000 A) (hB : DigB 10000 B) (nA : Norm A) (nB : Norm B) (h0 : B ≠ []) (hlB : B.length ≤ 10000) (hlA : A.length ≤ B.length + 1) (hlt : leV 10000 A < 10000 * leV 10000 B) (a b : Option Addr) (ca cb : Nat) (hra : Room A.length ca) (hrb : Room B.length cb) (w : World) (hva : CellsAt w a (ofN A)) (hvb : CellsAt w b (ofN B)) :
    Calls Tryz.prog 73 #[.slice a A.length ca, .slice b B.length cb] w fun e w' => e = .returned (.int .i64 (leV 10000 A / leV 10000 B : Nat)) ∧ Below w.heap.size w w' := by
  have hlen0 : 0 < B.length := List.length_pos_iff.2 h0
  obtain ⟨cut, hcut⟩ : ∃ cut, cut = B.length - 2 := ⟨_, rfl⟩
  have hmax : max (0 : Int) ((B.length : Int) - 2) = (cut : Nat) := by omega
  have hp : 0 < 10000 ^ cut := Nat.pow_pos (by decide)
  have hdv := norm_pow nB h0 (k := cut) (by omega)
  have hd1 : 1 ≤ leV 10000 B / 10000 ^ cut := Nat.le_trans (Nat.pow_pos (by decide)) hdv
  have hd2 : 10000 ^ cut = 1 ∨ 10000 ≤ leV 10000 B / 10000 ^ cut := by
    rcases Nat.lt_or_ge B.length 3 with h | h
    · have : cut = 0 := by omega
      rw [this]; exact .inl rfl
    · rw [show B.length - 1 - cut = 1 by omega] at hdv
      exact .inr hdv
  have hmost := most_le hp hlt hd1 hd2
  obtain ⟨hb1, hb2⟩ := group_bounds (A := leV 10000 A) (B := leV 10000 B) hp hd1
  have huA := leV_drop' hA cut
  have huB := leV_drop' hB cut
  have hub : leV 10000 (A.drop cut) < 10000 ^ 3 := by
    have h1 : DigB 10000 (A.drop cut) := fun x hx => hA x (List.mem_of_mem_drop hx)
    have h2 := leV_lt h1
    have h3 : 10000 ^ (A.drop cut).length ≤ 10000 ^ 3 := Nat.pow_le_pow_right (by decide) (by simp; omega)
    omega
  have hvbd : leV 10000 (B.drop cut) < 10000 ^ 3 := by
    have h1 : DigB 10000 (B.drop cut) := fun x hx => hB x (List.mem_of_mem_drop hx)
    have h2 := leV_lt h1
    have h3 : 10000 ^ (B.drop cut).length ≤ 10000 ^ 3 := Nat.pow_le_pow_right (by decide) (by simp; omega)
    omega
  rw [← huA, ← huB] at hb1 hb2 hmost
  rw [← huB] at hd1
  have HBp : 0 < leV 10000 B := leV_pos (by decide) nB h0
  have HUA := Lib.hid (fun W hc => above_any A hA cut (by omega) (by omega) (by omega) a ca W hra hc)
  have HUB := Lib.hid (fun W hc => above_any B hB cut (by omega) (by omega) (by omega) b cb W hrb hc)
  have hbt1 : leV 10000 (A.drop cut) / (leV 10000 (B.drop cut) + 1) ≤ 10000 := by omega
  generalize leV 10000 (A.drop cut) = u at *
  generalize leV 10000 (B.drop cut) = d at *
  obtain ⟨least, hle⟩ : ∃ least, least = u / (d + 1) := ⟨_, rfl⟩
  obtain ⟨most, hmo⟩ : ∃ most, most = u / d := ⟨_, rfl⟩
  rw [← hle] at hb1 hbt1
  rw [← hmo] at hb2 hmost
  have hq1 : IntKind.i64.wrap ((d : Int) + 1) = ((d + 1 : Nat) : Int) := by rw [IntKind.wrap_i64]; omega
  have hq2 : (u : Int).tdiv ((d + 1 : Nat) : Int) = (least : Nat) := by rw [hle]; exact tdiv_nat u (d + 1)
  have hq3 : (u : Int).tdiv (d : Int) = (most : Nat) := by rw [hmo]; exact tdiv_nat u d
  have hq4 : IntKind.i64.wrap ((most : Int) - least) = ((most - least : Nat) : Int) := by rw [IntKind.wrap_i64]; omega
  have hS : Hid (∀ (bM bL bA : Nat) (W0 : World), QG W0 bM bL bA a b ca cb A B least → ∀ W, Below W0.heap.size W0 W → Calls Tryz.prog 63 #[.int .i64 ((most - least : Nat) : Int), .func (.func 90) #[] #[.pointer (some ⟨bM, 0, none⟩), .pointer (some ⟨bL, 0, none⟩), .pointer (some ⟨bA, 0, none⟩)]] W fun e w' => ∃ r : Nat, e = .returned (.int .i64 r) ∧ least + r = leV 10000 A / leV 10000 B ∧ Below W0.heap.size W0 w') := by
    intro bM bL bA W0 hq W hbel
    refine (search_any (g := 90) (enters_of Tryz.func90 (by kernel_rfl) rfl) (most - least) (by omega) (fun m => decide (leV 10000 A < leV 10000 B * (least + m + 1))) (fun W => Below W0.heap.size W0 W) W hbel (fun h W1 hh hI => ?_)).mono ?_
    · exact (group1_any A B hA hB nA (by omega) (by omega) bM bL bA a b ca cb hra least h (by omega) W1 (hq.via hI)).mono fun e w' ⟨h1, h2⟩ => ⟨h1, belowVia h2 hI⟩
    · rintro e w' ⟨r, h1, h2, h3⟩
      exact ⟨r, h1, group_found HBp hb1 hb2 h2, h3⟩
  obtain ⟨Q, hQ⟩ : ∃ Q, Q = leV 10000 A / leV 10000 B := ⟨_, rfl⟩
  have hQb : Q ≤ 10000 := by omega
  rw [← hQ] at hS ⊢
  have HVA := Lib.hid hva
  have HVB := Lib.hid hvb
  have hub' : (u : Int) < 1000000000000 := by omega
  have hdb' : (d : Int) < 1000000000000 := by omega
  have hdne : (d : Int) ≠ 0 := by omega
  have hdn2 : ((d : Int) == 0) = false := by simpa using hdne
  have hd1n : ((d + 1 : Nat) : Int) ≠ 0 := by omega
  have hd1e : (((d + 1 : Nat) : Int) == 0) = false := by simpa using hd1n
  have hlBb : (B.length : Int) ≤ 10000 := by omega
  have hcb : (cut : Int) ≤ 10000 := by omega
  have hmb' : (most : Int) ≤ 10000 := by omega
  have hlb' : (least : Int) ≤ 10000 := by omega
  generalize hs1 : d + 1 = d1 at *
  clear hA hB nA nB h0 hlB hlA hlt hra hrb hva hvb hcut hp hdv hd1 hd2 hmost hb1 hb2 huA huB hub hvbd HBp hbt1 hle hmo hlen0 hs1 hQ
  go_enter Tryz.func73, Tryz.ntmps73
  go_wp2_with fail
  refine (HUA.out _ ((HVA.out).via ((Below.refl _ _).alloc (Nat.le_refl _) _))).mono ?_
  rintro e w1 ⟨rfl, rfl⟩
  go_wp2_with fail
  refine (HUB.out _ ((HVB.out).via ((Below.refl _ _).alloc (Nat.le_refl _) _))).mono ?_
  rintro e w1 ⟨rfl, rfl⟩
  go_wp2_with fail
  go_region
  go_wp2_with fail
  have hW := qg_made (ca := ca) (cb := cb) (least := least) (t1 := 45) (t2 := 3) (t3 := 84) HVA.out HVB.out
  generalize World.drew _ = W4 at hW ⊢
  have hcl := hW.1.hl
  have HQG := Lib.hid hW.1
  have HBW := Lib.hid hW.2
  have HSR := Lib.hid (hS.out _ _ _ W4 HQG.out)
  clear hW
  go_region_held3 (fun w' => w'.cell? ⟨w.heap.size + 1, 0, none⟩ = some (.int .i64 (least : Nat))) (first | exact hcl | exact keptBelow hB5 hcl) (first
    | (go_at_call 63; (with_reducible refine (HSR.out _ ?_).mono ?_); exact (Below.refl _ _).drew; rintro e w5 ⟨r, rfl, hr, hB5⟩))
  have hwr : IntKind.i64.wrap ((least : Int) + r) = (Q : Nat) := by rw [IntKind.wrap_i64]; omega
  rw [hwr]
  go_wp2_with fail
  go_ret
  exact ⟨rfl, belowVia hB5 HBW.out⟩
end Go.Proofs.YtggkbeppfpgkaaaGreatDoor
