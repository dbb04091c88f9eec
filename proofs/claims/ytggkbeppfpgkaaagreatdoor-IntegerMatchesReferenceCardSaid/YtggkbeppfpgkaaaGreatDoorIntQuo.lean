/- The contract of the division of magnitudes, where the divisor is longer too; of the greatest common divisor. -/
import Derived.Test.YtggkbeppfpgkaaaGreatDoorIntDiv
namespace Go.Proofs.YtggkbeppfpgkaaaGreatDoor
open Go.RowKit Putlog

set_option maxRecDepth 100000 in
set_option maxHeartbeats 8000000 in
theorem div_lt (A B : List Nat) (hA : DigB 10000 A) (nA : Norm A) (nB : Norm B) (hlB : B.length ≤ 5000) (hlen : A.length < B.length) (a b : Option Addr) (ca cb : Nat) (w : World)
    (hra : Room A.length ca) (hrb : Room B.length cb) (hva : CellsAt w a (ofN A)) :
    Calls Tryz.prog 59 #[.slice a A.length ca, .slice b B.length cb] w fun e w' => (∃ v u, e = .returned (.tuple #[v, u]) ∧ MagAt w' v (digsL 10000 (leV 10000 A / leV 10000 B)) ∧ MagAt w' u (digsL 10000 (leV 10000 A % leV 10000 B))) ∧ Below w.heap.size w w' := by
  have hlt := leV_len_lt (B := 10000) (by decide) hA nB hlen
  have e1 : digsL 10000 (leV 10000 A / leV 10000 B) = [] := by rw [Nat.div_eq_of_lt hlt, digsL_zero]
  have e2 : digsL 10000 (leV 10000 A % leV 10000 B) = A := by rw [Nat.mod_eq_of_lt hlt, digsL_leV (by decide) hA nA]
  rw [e1, e2]
  obtain ⟨i0, hi0, hz0, hz1, hz2⟩ := info_parts info_int
  have HI0 := Lib.hid hi0
  have HZ0 := Lib.hid hz0
  have HZ1 := Lib.hid hz1
  have HZ2 := Lib.hid hz2
  have hra1 := hra.1
  have hrb1 := hrb.1
  have HCL := Lib.hid (clone_any A (by omega) a ca w hva)
  obtain ⟨n, hn⟩ : ∃ n, n = A.length := ⟨_, rfl⟩
  obtain ⟨m, hm⟩ : ∃ m, m = B.length := ⟨_, rfl⟩
  rw [← hn] at hra1 HCL hlen
  rw [← hm] at hrb1 hlB hlen
  rw [← hn, ← hm]
  have HN := Lib.hid hn
  have hlA' : (n : Int) ≤ 5000 := by omega
  have hlB' : (m : Int) ≤ 5000 := by omega
  have hlen' : (n : Int) < m := by omega
  have hmax : max (0 : Int) ((n : Int) - m + 1) = ((0 : Nat) : Int) := by omega
  obtain ⟨d, hd⟩ : ∃ d : Int, (n : Int) - m = d := ⟨_, rfl⟩
  have hdn : d < 0 := by omega
  have hdn2 : ¬ (0 ≤ d) := by omega
  have hdb : -5000 ≤ d := by omega
  rw [hd] at hmax
  have HTR := Lib.hid (fun (W : World) (a : Option Addr) => trimmed_any [] (by simp) a 0 W Room.zero (.inl rfl))
  clear hi0 hz0 hz1 hz2 hA nA nB hlB hlen hra hrb hva hlt e1 e2 hn hm
  go_enter Tryz.func59, Tryz.ntmps59
  go_wp2_with fail
  refine HCL.out.mono ?_
  rintro e w1 ⟨⟨v, rfl, hown⟩, hB1⟩
  have hown' : w1.ownsRow w.heap.size 3 1 v A.length (i64l A) := by rw [← HN.out]; exact hown
  obtain ⟨a1, c1, rfl, hr1, hc1⟩ := cols_clone hown'
  have HC1 := Lib.hid hc1.cells
  have HR1 := Lib.hid hr1
  have HB1 := Lib.hid hB1
  clear hown hB1 hown' hc1 hr1 HCL
  rw [← HN.out]
  go_wp2_with (at_make; go_must (refine wpList_make_full _ rfl _ _ 45 rfl w1.heap.size 3 i0 (.int .i64 0) 1 Tryz.underlying45 HI0.out HZ0.out HZ1.out .i64 .i64 ((0 : Nat) : Int) ((0 : Nat) : Int) 0 rfl rfl rfl rfl (by rw [HZ2.out]; omega) (by unfold maxLen; omega) (Nat.le_refl _) ?_); intro w2 hown2 hgrow2; have HC2 := Lib.hid (HC1.out.via (belowMade hgrow2)); have HB2 := Lib.hid (belowVia (belowMade hgrow2) HB1.out); clear hown2 hgrow2)
  go_loopw [6, 8] (fun v i wr => v = .slice a1 n c1 ∧ i = .int .i64 d ∧ wr = w2) (fun _ i _ => 0)
  case atStart => exact ⟨rfl, rfl, rfl⟩
  case round =>
    obtain ⟨rfl, rfl, rfl⟩ := hrel
    go_wp2_with fail
    refine (HTR.out _ _).mono ?_
    rintro e w3 ⟨rfl, rfl⟩
    go_wp2_with fail
    go_ret2
    refine ⟨⟨_, _, rfl, ⟨_, _, rfl, ⟨?_, ?_⟩, .inl rfl⟩, ?_⟩, HB2.out⟩
    · simp
    · omega
    · show MagAt w3 (.slice a1 n c1) A
      exact ⟨_, _, by rw [HN.out], HR1.out, HC2.out⟩
theorem div_any (A B : List Nat) (hA : DigB 10000 A) (hB : DigB 10000 B) (nA : Norm A) (nB : Norm B) (h0 : B ≠ []) (hlA : A.length ≤ 5000) (hlB : B.length ≤ 5000) (u v : Value) (w : World) (hu : MagAt w u A) (hv : MagAt w v B) :
    Calls Tryz.prog 59 #[u, v] w fun e w' => (∃ q r, e = .returned (.tuple #[q, r]) ∧ MagAt w' q (digsL 10000 (leV 10000 A / leV 10000 B)) ∧ MagAt w' r (digsL 10000 (leV 10000 A % leV 10000 B))) ∧ Below w.heap.size w w' := by
  obtain ⟨a, ca, rfl, hra, hca⟩ := hu
  obtain ⟨b, cb, rfl, hrb, hcb⟩ := hv
  rcases Nat.lt_or_ge A.length B.length with h | h
  · exact div_lt A B hA nA nB hlB h a b ca cb w hra hrb hca
  · exact div_ge A B hA hB nA nB h0 hlA h a b ca cb w hra hrb hca hcb
/-- The number in a slice of groups. -/
def readN (w : World) (g o : Nat) : Nat → Nat
  | 0 => 0
  | n + 1 => (match w.cell? ⟨g, o, none⟩ with | some (.int _ k) => k.toNat | _ => 0) + 10000 * readN w g (o + 1) n
def magV (w : World) : Value → Nat
  | .slice (some ⟨g, o, none⟩) n _ => readN w g o n
  | _ => 0
theorem readN_at {w : World} {g : Nat} : ∀ (l : List Nat) (o : Nat), (∀ j, j < l.length → w.cell? ⟨g, o + j, none⟩ = some (.int .i64 (l.getD j 0 : Nat))) → readN w g o l.length = leV 10000 l
  | [], _, _ => rfl
  | x :: l, o, h => by
    have h0 := h 0 (by simp)
    rw [Nat.add_zero] at h0
    rw [List.length_cons, readN, h0, readN_at l (o + 1) (fun j hj => by have := h (j + 1) (by simp; omega); rw [show o + 1 + j = o + (j + 1) by omega]; simpa using this), leV]
    simp
theorem magV_at {w : World} {v : Value} {l : List Nat} (h : MagAt w v l) : magV w v = leV 10000 l := by
  obtain ⟨a, c, rfl, _, h2⟩ := h
  rcases h2 with h2 | ⟨g, o, rfl, h2⟩
  · have h3 : (ofN l).length = 0 := by rw [h2]; rfl
    rw [ofN_len] at h3
    obtain rfl := List.length_eq_zero_iff.1 h3
    cases a with
    | none => rfl
    | some ad => obtain ⟨g, o, s⟩ := ad; cases s <;> rfl
  · exact readN_at l o fun j hj => by rw [h2 j (by rw [ofN_len]; exact hj), ofN_get]
theorem gcd_step (A B : Nat) : Nat.gcd A B = Nat.gcd B (A % B) := by rw [Nat.gcd_comm A B, Nat.gcd_rec, Nat.gcd_comm]
theorem digsL_ne {B : Nat} (h : digsL 10000 B ≠ []) : B ≠ 0 := fun e => h (by rw [e, digsL_zero])
theorem digsL_nil {B : Nat} (h : digsL 10000 B = []) : B = 0 := by have := leV_digsL (B := 10000) (by decide) B; rw [h] at this; exact this.symm
set_option maxRecDepth 100000 in
set_option maxHeartbeats 8000000 in
theorem gcd_any (A B : Nat) (hA : A < 10000 ^ 250) (hB : B < 10000 ^ 250) (u v : Value) (w : World) (hu : MagAt w u (digsL 10000 A)) (hv : MagAt w v (digsL 10000 B)) :
    Calls Tryz.prog 45 #[u, v] w fun e w' => (∃ r, e = .returned r ∧ MagAt w' r (digsL 10000 (Nat.gcd A B))) ∧ Below w.heap.size w w' := by
  have HU := Lib.hid hu
  have HV := Lib.hid hv
  have HA := Lib.hid hA
  have HB := Lib.hid hB
  obtain ⟨G, hG⟩ : ∃ G, G = Nat.gcd A B := ⟨_, rfl⟩
  rw [← hG]
  have HG := Lib.hid hG
  clear hu hv hA hB hG
  go_enter Tryz.func45, Tryz.ntmps45
  go_wp2_with fail
  go_loopw [0, 1] (fun a b wr => ∃ X Y : Nat, MagAt wr a (digsL 10000 X) ∧ MagAt wr b (digsL 10000 Y) ∧ Nat.gcd X Y = G ∧ X < 10000 ^ 250 ∧ Y < 10000 ^ 250 ∧ Below w.heap.size w wr) (fun _ b wr => magV wr b)
  case atStart => exact ⟨A, B, HU.out, HV.out, HG.out.symm, HA.out, HB.out, Below.refl _ _⟩
  case round =>
    clear HU HV HA HB HG
    obtain ⟨X, Y, hX, hY, hg, hXb, hYb, hB⟩ := hrel
    have HX := Lib.hid hX
    have HG := Lib.hid hg
    have HXb := Lib.hid hXb
    have HYb := Lib.hid hYb
    have HB := Lib.hid hB
    obtain ⟨a1, c1, rfl, hr1, _⟩ := hX
    clear hg hXb hYb hB
    rcases Nat.eq_zero_or_pos Y with h0 | h0
    · subst h0
      rw [digsL_zero] at hY
      obtain ⟨b1, c2, rfl, hr2, _⟩ := hY
      clear hr1 hr2
      go_wp2_with fail
      go_ret
      refine ⟨⟨_, rfl, ?_⟩, HB.out⟩
      rw [← HG.out, Nat.gcd_zero_right]; exact HX.out
    · have hne : digsL 10000 Y ≠ [] := fun e => by have := digsL_nil e; omega
      have hlen : (0 : Int) < (digsL 10000 Y).length := by have := List.length_pos_iff.2 hne; omega
      have HDV := Lib.hid (div_any (digsL 10000 X) (digsL 10000 Y) (digsL_dig (by decide) _) (digsL_dig (by decide) _) (digsL_norm (by decide) _) (digsL_norm (by decide) _) hne (Nat.le_trans (digsL_len_le HXb.out) (by decide)) (Nat.le_trans (digsL_len_le HYb.out) (by decide)) _ _ wr HX.out hY)
      simp only [leV_digsL (B := 10000) (by decide)] at HDV
      have HMV : Hid (magV wr _ = Y) := (magV_at hY).trans (leV_digsL (by decide) Y)
      have HY := Lib.hid hY
      have HP : Hid (0 < Y) := h0
      obtain ⟨b1, c2, rfl, hr2, _⟩ := hY
      have hl2 : ((digsL 10000 Y).length : Int) ≤ 5000 := by have := digsL_len_le HYb.out; omega
      clear hne hr1 hr2 h0
      go_wp2_with fail
      refine HDV.out.mono ?_
      rintro e w1 ⟨⟨q, r, rfl, hq, hr⟩, hB1⟩
      have HR := Lib.hid hr
      have HM2 : Hid (magV w1 r = X % Y) := (magV_at hr).trans (leV_digsL (by decide) _)
      have HY1 := Lib.hid (HY.out.via hB1)
      have HB1 := Lib.hid (belowVia hB1 HB.out)
      clear hq hr hB1 HDV HY HX
      go_wp2_with fail
      go_roundw
      case rel => exact ⟨Y, X % Y, HY1.out, HR.out, by rw [← HG.out]; exact (gcd_step X Y).symm, HYb.out, Nat.lt_of_le_of_lt (Nat.mod_le _ _) HXb.out, HB1.out⟩
      case measure =>
        rw [HM2.out, HMV.out]
        exact Nat.mod_lt _ HP.out
end Go.Proofs.YtggkbeppfpgkaaaGreatDoor
