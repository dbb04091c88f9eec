/- Several texts of layers 7 and 8, one behind the other: PlnArea, PlnRefC, PlnInside, PlnCell, PlnMove, PlnCut, PlnRefD, PlnCutP, PlnPair, PlnConvexP, PlnPoly. -/
import Derived.Deep.DeepCutAuto
import Derived.Maps.AppendAt
import Derived.Test.YtcamncipkofgkaaDoorUM4
/- PlnArea: The contracts of Area2, Moments, Lattice, Inside, Cell, Move. -/
namespace Go.Proofs.YtcamncipkofgkaaDoor
open Go.RowKit Go.Shelf Pln

/-- A length that a list in memory may have. -/
def Len (l : List Pt) : Prop := (l.length : Int) ≤ 4611686018427387904
theorem sumE_bd {l : List Pt} {f : Pt → Pt → Int} {M : Int} (h : ∀ i, i < l.length → -M ≤ f (vx l i) (nx l i) ∧ f (vx l i) (nx l i) ≤ M) : ∀ k, k ≤ l.length → -(k * M) ≤ sumE l f k ∧ sumE l f k ≤ k * M
  | 0, _ => by simp [sumE, sm]
  | k + 1, hk => by
    have := sumE_bd h k (by omega)
    have := h k (by omega)
    rw [sumE_succ]; push_cast; rw [Int.add_mul]; omega
theorem sumE_small {l : List Pt} {f : Pt → Pt → Int} (hl : l.length ≤ 8) {M : Int} (hM : M ≤ 400000000) (h0 : 0 ≤ M) (h : ∀ i, i < l.length → -M ≤ f (vx l i) (nx l i) ∧ f (vx l i) (nx l i) ≤ M) (k : Nat) (hk : k ≤ l.length) : -3200000000 ≤ sumE l f k ∧ sumE l f k ≤ 3200000000 := by
  have := sumE_bd h k hk
  have h1 : (k : Int) * M ≤ 8 * 400000000 := Int.mul_le_mul (by omega) hM h0 (by omega)
  omega
theorem crs_sum {l : List Pt} (v : Val l) (k : Nat) (hk : k ≤ l.length) : -3200000000 ≤ sumE l crs k ∧ sumE l crs k ≤ 3200000000 :=
  sumE_small v.hi (M := 13122) (by omega) (by omega) (fun i hi => crs_in (val_smls v i hi) (val_smls v _ (mod_lt' hi))) k hk
theorem mx_in {a b : Pt} (ha : Sml a) (hb : Sml b) : (-(13122 * 13122) ≤ (a.1 + b.1) * crs a b ∧ (a.1 + b.1) * crs a b ≤ 13122 * 13122) ∧ -(13122 * 13122) ≤ (a.2 + b.2) * crs a b ∧ (a.2 + b.2) * crs a b ≤ 13122 * 13122 := by
  have := crs_in ha hb
  have := ha.x0; have := ha.x1; have := ha.y0; have := ha.y1
  have := hb.x0; have := hb.x1; have := hb.y0; have := hb.y1
  exact ⟨mul_in (by omega) (by omega) (by omega) (by omega), mul_in (by omega) (by omega) (by omega) (by omega)⟩
theorem mx_sum {l : List Pt} (v : Val l) (k : Nat) (hk : k ≤ l.length) : -3200000000 ≤ sumE l (fun a b => (a.1 + b.1) * crs a b) k ∧ sumE l (fun a b => (a.1 + b.1) * crs a b) k ≤ 3200000000 :=
  sumE_small v.hi (M := 13122 * 13122) (by omega) (by omega) (fun i hi => (mx_in (val_smls v i hi) (val_smls v _ (mod_lt' hi))).1) k hk
theorem my_sum {l : List Pt} (v : Val l) (k : Nat) (hk : k ≤ l.length) : -3200000000 ≤ sumE l (fun a b => (a.2 + b.2) * crs a b) k ∧ sumE l (fun a b => (a.2 + b.2) * crs a b) k ≤ 3200000000 :=
  sumE_small v.hi (M := 13122 * 13122) (by omega) (by omega) (fun i hi => (mx_in (val_smls v i hi) (val_smls v _ (mod_lt' hi))).2) k hk
theorem stp_in {a b : Pt} (ha : Sml a) (hb : Sml b) : 0 ≤ stp a b ∧ stp a b ≤ 162 := by
  have := ha.x0; have := ha.x1; have := ha.y0; have := ha.y1
  have := hb.x0; have := hb.x1; have := hb.y0; have := hb.y1
  unfold stp
  refine ⟨by omega, ?_⟩
  by_cases h : b.1 - a.1 = 0
  · rw [h]; simp [Int.gcd]; omega
  · have := Int.gcd_le_natAbs_left (b.2 - a.2) h; omega
theorem stp_sum {l : List Pt} (v : Val l) (k : Nat) (hk : k ≤ l.length) : -3200000000 ≤ sumE l stp k ∧ sumE l stp k ≤ 3200000000 :=
  sumE_small v.hi (M := 162) (by omega) (by omega) (fun i hi => by have h : 0 ≤ stp (vx l i) (nx l i) ∧ stp (vx l i) (nx l i) ≤ 162 := stp_in (val_smls v i hi) (val_smls v _ (mod_lt' hi)); exact ⟨by omega, h.2⟩) k hk
set_option maxHeartbeats 1000000 in
theorem area_w (l : List Pt) (hl : Len l) (v : Value) (w : World) (hv : PtsAt w v l) :
    Calls Tryd.prog 50 #[v] w fun e w' => e = .returned (.int .i64 (areaP l)) ∧ Below w.heap.size w w' := by
  have HW := Lib.hid (valid_w l hl v w hv)
  rcases hb : valB l with _ | _
  · have HR : Hid (areaP l = 0) := Lib.hid (by unfold areaP; rw [hb]; rfl)
    rw [hb] at HW
    clear hb hv
    go_enter Tryd.func50, Tryd.ntmps50
    go_wp2_with (go_at_call 48; (with_reducible refine HW.out.mono ?_); rintro e u3 ⟨rfl, hB3⟩)
    go_ret
    exact ⟨ret_int HR.out.symm, hB3⟩
  · have vl := (valB_iff l).1 hb
    have HT := Lib.hid (fun w1 (hB : Below w.heap.size w w1) => total_w l crs 80 (enters_of Tryd.func80 (by kernel_rfl) rfl) v w1 (hv.via hB) (by have := vl.hi; omega)
      (fun k hk w2 => cross_w _ _ (val_smls vl k hk) (val_smls vl _ (mod_lt' hk)) w2) (fun k hk => by have := crs_sum vl k hk; omega))
    have HR : Hid (areaP l = sumE l crs l.length) := Lib.hid (by unfold areaP; rw [if_pos hb])
    rw [hb] at HW
    clear hb hv vl
    go_enter Tryd.func50, Tryd.ntmps50
    go_wp2_with (first | (go_at_call 48; (with_reducible refine HW.out.mono ?_); rintro e u3 ⟨rfl, hB3⟩) | (go_at_call 79; (with_reducible refine (HT.out _ (by assumption)).mono ?_); rintro e u4 ⟨rfl, hB4⟩))
    go_ret
    exact ⟨ret_int HR.out.symm, belowStep hB3 hB4⟩
end Go.Proofs.YtcamncipkofgkaaDoor
/- PlnRefC: The contracts of the reference's end and Valid. -/
namespace Go.Proofs.YtcamncipkofgkaaDoor
open Go.RowKit Go.Shelf Pln

set_option maxRecDepth 100000 in
set_option maxHeartbeats 1000000 in
theorem end_w (l : List Pt) (hl : l.length ≤ 100) (i : Nat) (hi : i < l.length) (v : Value) (w : World) (hv : PtsAt w v l) :
    Calls Tryd.prog 78 #[v, .int .i64 i] w fun e w' => e = .returned (pv (nx l i)) ∧ Below w.heap.size w w' := by
  obtain ⟨g, o, c, rfl, _, _, hcells⟩ := at_some hv (by omega)
  obtain ⟨n, hn⟩ : ∃ n, n = l.length := ⟨_, rfl⟩
  have hnx : vx l ((i + 1) % n) = nx l i := by unfold nx; rw [hn]
  rw [← hn] at hl hi hcells ⊢
  have hm : (i + 1) % n < n := Nat.mod_lt _ (by omega)
  have hrem : ((i : Int) + 1).tmod n = (((i + 1) % n : Nat) : Int) := by rw [Int.tmod_eq_emod_of_nonneg (by omega)]; simp
  have hw1 : IntKind.i64.wrap ((i : Int) + 1) = (i : Int) + 1 := IntWalk.i64_in _ (by omega)
  have hn0 : ¬ n = 0 := by omega
  obtain ⟨c0, c1⟩ := hcells _ hm
  rw [hnx] at c0 c1
  have hmb : (((i + 1) % n : Nat) : Int) < n := by omega
  have hB := alloc_below w (.cells #[.int .i64 0, .int .i64 0] 38)
  have d0 := keptBelow hB c0
  have d1 := keptBelow hB c1
  clear hcells hn hv hnx hB
  generalize (i + 1) % n = m at *
  generalize nx l i = q at *
  obtain ⟨q1, q2⟩ := q
  unfold pv
  dsimp only at c0 c1 d0 d1 ⊢
  go_enter Tryd.func78, Tryd.ntmps78
  go_wp2_with fail
  refine bodyPost_ret (v := .agg #[.int .i64 q1, .int .i64 q2]) (by simp [results, Tryd.results78, go_sem]) rfl ⟨rfl, ?_⟩
  exact alloc_below _ _
theorem valB_parts {l : List Pt} (h3 : 3 ≤ l.length) (h8 : l.length ≤ 8) (ho : onsB l l.length = true) : valB l = rowsB l l.length := by
  unfold valB; rw [ho, decide_eq_true h3, decide_eq_true h8]; simp
theorem valB_short {l : List Pt} (h : ¬ (3 ≤ l.length ∧ l.length ≤ 8)) : valB l = false := by
  rcases e : valB l with _ | _
  · rfl
  · have v := (valB_iff l).1 e
    exact absurd ⟨v.lo, v.hi⟩ h
theorem valB_off {l : List Pt} {k : Nat} (hk : k < l.length) (h : onB (vx l k) = false) : valB l = false := by
  rcases e : valB l with _ | _
  · rfl
  · have v := (valB_iff l).1 e
    rw [(onB_iff _).2 (v.on k hk)] at h; exact Bool.noConfusion h
theorem valB_turn {l : List Pt} {i k : Nat} (hi : i < l.length) (hk : k < l.length) (h1 : k ≠ i) (h2 : k ≠ (i + 1) % l.length) (h : turn (vx l i) (nx l i) (vx l k) ≤ 0) : valB l = false := by
  rcases e : valB l with _ | _
  · rfl
  · have v := (valB_iff l).1 e
    have := v.left i hi k hk h1 h2
    omega
/-- The edges before i, and edge i against the corners before k, turn as they should. -/
def TurnsTo (l : List Pt) (i k : Nat) : Prop := ∀ a b, (a < i ∨ a = i ∧ b < k) → b < l.length → b ≠ a → b ≠ (a + 1) % l.length → 0 < turn (vx l a) (nx l a) (vx l b)
theorem turns_next {l : List Pt} {i k : Nat} (h : TurnsTo l i k) (hk : k ≠ i → k ≠ (i + 1) % l.length → 0 < turn (vx l i) (nx l i) (vx l k)) : TurnsTo l i (k + 1) := by
  intro a b hab hb h1 h2
  by_cases e : a = i ∧ b = k
  · obtain ⟨rfl, rfl⟩ := e; exact hk h1 h2
  · exact h a b (by omega) hb h1 h2
theorem turns_row {l : List Pt} {i : Nat} (h : TurnsTo l i l.length) : TurnsTo l (i + 1) 0 := fun a b hab hb h1 h2 => h a b (by omega) hb h1 h2
theorem turns_val {l : List Pt} (h3 : 3 ≤ l.length) (h8 : l.length ≤ 8) (ho : ∀ j, j < l.length → onB (vx l j) = true) (h : TurnsTo l l.length 0) : valB l = true :=
  (valB_iff l).2 ⟨h3, h8, fun i hi => (onB_iff _).1 (ho i hi), fun i hi j hj h1 h2 => h i j (by omega) hj h1 h2⟩
/-- One operation alone may come up, and it is not wanted. -/
theorem wpT_skipone {F : Fence} {n : Nat} {P : Program} {ops : Array Oper} {Q : Exit → Act → World → Prop} {md : Region.Mode} {S : World → Prop} (i : Nat) {k : Nat} {oi : Oper} {fuel : Nat} {listed : Array Bool} {a : Act} {w : World} (hi : ops[i]? = some oi) (hg : Region.wanted oi (yielded ops a.tmps) = false) (hr : Region.ready md ops listed = [i])
    (hab : ∀ f, oi.about P w a.eval = some f → F.fn f) (h : ((listed.setIfInBounds i true).getD k true = false → S w) ∧ wpT F n P md ops Q S k fuel (listed.setIfInBounds i true) (a.put oi.dst undef) w) : wpT F n P md ops Q S k (fuel + 1) listed a w := by
  refine ⟨fun h0 => (by rw [hr] at h0; cases h0), fun j hj => ?_⟩
  rw [hr] at hj
  obtain rfl : j = i := by simpa using hj
  unfold wpOpIn
  simp only [hi, hg, Bool.false_eq_true, if_false]
  exact ⟨hab, h⟩
set_option maxRecDepth 100000 in
set_option maxHeartbeats 2000000 in
theorem validR_w (l : List Pt) (hl : Len l) (v : Value) (w : World) (hv : PtsAt w v l) :
    Calls Tryd.prog 49 #[v] w fun e w' => e = .returned (.bool (valB l)) ∧ Below w.heap.size w w' := by
  have HV := Lib.hid hv
  obtain ⟨⟨aa, ca, rfl, _, _, _⟩, _⟩ := hv
  obtain ⟨n, hn⟩ : ∃ n, n = l.length := ⟨_, rfl⟩
  have HNN := Lib.hid hn
  have hnb : (n : Int) ≤ 4611686018427387904 := by unfold Len at hl; omega
  rw [← hn] at HV ⊢
  clear hn hl
  by_cases h3 : n < 3
  · have HR := Lib.hid (valB_short (l := l) (by rw [← HNN.out]; omega))
    have h3' : (n : Int) < 3 := by omega
    clear h3
    go_enter Tryd.func49, Tryd.ntmps49
    go_wp2_with fail
    go_ret
    exact ⟨ret_bool HR.out.symm, Below.refl _ _⟩
  by_cases h8 : 8 < n
  · have HR := Lib.hid (valB_short (l := l) (by rw [← HNN.out]; omega))
    have h3' : 3 ≤ (n : Int) := by omega
    have h8' : (8 : Int) < n := by omega
    clear h3 h8
    go_enter Tryd.func49, Tryd.ntmps49
    go_wp2_with fail
    go_ret
    exact ⟨ret_bool HR.out.symm, Below.refl _ _⟩
  have h3' : 3 ≤ (n : Int) := by omega
  have h8' : (n : Int) ≤ 8 := by omega
  have H3 := Lib.hid (show 3 ≤ l.length by rw [← HNN.out]; omega)
  have H8 := Lib.hid (show l.length ≤ 8 by rw [← HNN.out]; omega)
  clear h3 h8
  go_enter Tryd.func49, Tryd.ntmps49
  go_wp2_with fail
  go_loopw [3] (fun i wr => ∃ k : Nat, k ≤ n ∧ i = .int .i64 k ∧ (∀ j, j < k → onB (vx l j) = true) ∧ Below w.heap.size w wr) (fun i _ => n - (intOf i).toNat)
  case atStart => exact ⟨0, by omega, rfl, fun j hj => by omega, Below.refl _ _⟩
  case round =>
    obtain ⟨k, hk, rfl, hj, hB⟩ := hrel
    have HJ := Lib.hid hj
    have HB := Lib.hid hB
    clear hj hB
    by_cases hlt : k < n
    · have hlt' : (k : Int) < n := by omega
      have hkl : k < l.length := by rw [← HNN.out]; exact hlt
      have hv2 := HV.out.via HB.out
      obtain ⟨⟨a', c', he, _, _, hin⟩, _⟩ := hv2
      rw [← HNN.out] at he
      cases he
      obtain ⟨g', o, rfl, c0, c1⟩ := hin.get hkl
      have HN := Lib.hid (fun h => valB_off (l := l) hkl h)
      have HY : Hid (onB (vx l k) = true → ∀ j, j < k + 1 → onB (vx l j) = true) := Lib.hid (fun h => snoc_all HJ.out h)
      clear hin hkl
      generalize vx l k = p at *
      obtain ⟨p1, p2⟩ := p
      dsimp only at c0 c1
      have HO := Lib.hid (fun w1 => onMapR_w p1 p2 w1)
      rcases ho : onB (p1, p2) with _ | _
      · have HR := Lib.hid (HN.out ho)
        rw [ho] at HO
        clear ho
        go_wp2_with fail
        refine (HO.out _).mono ?_
        rintro e w2 ⟨rfl, hB2⟩
        have HB2 := Lib.hid (belowStep HB.out hB2)
        clear hB2
        go_wp2_with fail
        go_ret
        exact ⟨ret_bool HR.out.symm, HB2.out⟩
      · have HR := Lib.hid (HY.out ho)
        rw [ho] at HO
        clear ho
        go_wp2_with fail
        refine (HO.out _).mono ?_
        rintro e w2 ⟨rfl, hB2⟩
        have HB2 := Lib.hid (belowStep HB.out hB2)
        clear hB2
        go_wp2_with fail
        go_roundw
        case rel => exact ⟨k + 1, by omega, by go_num, HR.out, HB2.out⟩
        case measure => simp [intOf]; omega
    · obtain rfl : n = k := by omega
      have HON : Hid (∀ j, j < l.length → onB (vx l j) = true) := Lib.hid (fun j hj => HJ.out j (by rw [HNN.out]; exact hj))
      go_wp2_with fail
      obtain ⟨W, hW⟩ : ∃ W, W = wr := ⟨_, rfl⟩
      subst hW
      go_loopw [4] (fun s wx => ∃ i : Nat, i ≤ n ∧ s = .int .i64 i ∧ TurnsTo l i 0 ∧ Below w.heap.size w wx) (fun s _ => n - (intOf s).toNat)
      case atStart => exact ⟨0, by omega, rfl, fun a b hab => by omega, HB.out⟩
      case round =>
        obtain ⟨i, hi, rfl, ht, hB⟩ := hrel
        have HTT := Lib.hid ht
        have HB4 := Lib.hid hB
        clear ht hB
        by_cases hin : i < n
        · have hin' : (i : Int) < n := by omega
          have hil : i < l.length := by rw [← HNN.out]; exact hin
          have HIL := Lib.hid hil
          clear hil
          obtain ⟨W4, hW4⟩ : ∃ W4, W4 = wr := ⟨_, rfl⟩
          subst hW4
          go_wp2_with fail
          go_loopw [5] (fun s wx => ∃ k : Nat, k ≤ n ∧ s = .int .i64 k ∧ TurnsTo l i k ∧ Below w.heap.size w wx) (fun s _ => n - (intOf s).toNat)
          case atStart => exact ⟨0, by omega, rfl, HTT.out, HB4.out⟩
          case round =>
            obtain ⟨k, hk, rfl, ht, hB⟩ := hrel
            have HTK := Lib.hid ht
            have HB5 := Lib.hid hB
            clear ht hB
            by_cases hkn : k < n
            · have hkn' : (k : Int) < n := by omega
              have hkl : k < l.length := by rw [← HNN.out]; exact hkn
              have hv2 := HV.out.via HB5.out
              have HV5 := Lib.hid hv2
              obtain ⟨⟨a', c', he, _, _, hc⟩, _⟩ := hv2
              rw [← HNN.out] at he
              cases he
              obtain ⟨g, o, rfl, c0, c1⟩ := hc.get HIL.out
              obtain ⟨g', o', he, d0, d1⟩ := hc.get hkl
              cases he
              have hm : (i + 1) % n < n := Nat.mod_lt _ (by omega)
              have hrem : ((i : Int) + 1).tmod n = (((i + 1) % n : Nat) : Int) := by rw [Int.tmod_eq_emod_of_nonneg (by omega)]; simp
              have hw1 : IntKind.i64.wrap ((i : Int) + 1) = (i : Int) + 1 := IntWalk.i64_in _ (by omega)
              have hn0 : ¬ n = 0 := by omega
              have HNX := Lib.hid (fun h => turns_next (k := k) HTK.out h)
              have HEND := Lib.hid (fun w1 hB => end_w l (by have := H8.out; omega) i HIL.out _ w1 (HV.out.via hB))
              have hml : ((i + 1) % l.length) = (i + 1) % n := by rw [HNN.out]
              have HBAD := Lib.hid (valB_turn HIL.out hkl)
              rw [hml] at HNX HBAD
              have hs1 := on_sml ((onB_iff _).1 (HON.out i HIL.out))
              have hs2 := on_sml ((onB_iff _).1 (HON.out k hkl))
              have hs3 := on_sml ((onB_iff _).1 (HON.out _ (mod_lt' HIL.out)))
              have HTU := Lib.hid (turnR_w (vx l i) (nx l i) (vx l k) hs1 hs3 hs2)
              clear hc hkl hml hs1 hs2 hs3
              generalize (i + 1) % n = m at *
              generalize vx l i = p at *
              generalize vx l k = q at *
              generalize nx l i = r at *
              obtain ⟨p1, p2⟩ := p
              obtain ⟨q1, q2⟩ := q
              obtain ⟨r1, r2⟩ := r
              unfold pv at HTU HEND
              dsimp only at c0 c1 d0 d1 HTU HEND
              generalize turn (p1, p2) (r1, r2) (q1, q2) = tt at *
              by_cases hki : k = i
              · subst hki
                have HR := Lib.hid (HNX.out (fun h => absurd rfl h))
                go_wp2_with fail
                go_quiet (fail)
                go_wp2_with fail
                go_roundw
                case rel => exact ⟨k + 1, by omega, by go_num, HR.out, below_drewN HB5.out _⟩
                case measure => simp [intOf]; omega
              · by_cases hkm : k = m
                · subst hkm
                  have HR := Lib.hid (HNX.out (fun _ h => absurd rfl h))
                  have hki' : ¬ (k : Int) = i := by omega
                  have hki2 : ((k : Int) == i) = false := by simp; omega
                  have hki3 : ((k : Int) != i) = true := by simp; omega
                  have hkd : decide ((k : Int) = i) = false := decide_eq_false hki'
                  go_wp2_with fail
                  refine (wpIn_wide (n := 5)).1 ?_
                  refine wpIn_region_T (fun w' => Below wr.drew.heap.size wr.drew w') 26 (by kernel_rfl) ?_
                  have hd : Below wr.heap.size wr wr.drew := (Below.refl _ _).drew
                  generalize wr.drew = wd at *
                  refine wpT_tk 0 38 (v := ?_) (Below.refl _ _) rfl rfl (by rfl) (hy := fun w hw => ?_) (h := ?_)
                  rotate_left
                  · go_simp; with_reducible rfl
                  try simp only [Act.put, List.setIfInBounds_toArray, List.set_cons_zero, List.set_cons_succ]
                  refine wpT_tk 1 39 (v := ?_) (Below.refl _ _) rfl rfl (by rfl) (hy := fun w hw => ?_) (h := ?_)
                  rotate_left
                  · go_simp; with_reducible rfl
                  try simp only [Act.put, List.setIfInBounds_toArray, List.set_cons_zero, List.set_cons_succ]
                  refine wpT_tk 2 40 (v := ?_) (Below.refl _ _) rfl rfl (by rfl) (hy := fun w hw => ?_) (h := ?_)
                  rotate_left
                  · go_simp; with_reducible rfl
                  try simp only [Act.put, List.setIfInBounds_toArray, List.set_cons_zero, List.set_cons_succ]
                  refine wpT_tk 3 41 (v := ?_) (Below.refl _ _) rfl rfl (by rfl) (hy := fun w hw => ?_) (h := ?_)
                  rotate_left
                  · go_simp; with_reducible rfl
                  try simp only [Act.put, List.setIfInBounds_toArray, List.set_cons_zero, List.set_cons_succ]
                  refine wpT_tk 4 42 (v := ?_) (Below.refl _ _) rfl rfl (by rfl) (hy := fun w hw => ?_) (h := ?_)
                  rotate_left
                  · go_simp; with_reducible rfl
                  try simp only [Act.put, List.setIfInBounds_toArray, List.set_cons_zero, List.set_cons_succ]
                  refine wpT_tk 5 43 (v := ?_) (Below.refl _ _) rfl rfl (by rfl) (hy := fun w hw => ?_) (h := ?_)
                  rotate_left
                  · go_simp; with_reducible rfl
                  try simp only [Act.put, List.setIfInBounds_toArray, List.set_cons_zero, List.set_cons_succ]
                  refine wpT_tk 6 44 (v := ?_) (Below.refl _ _) rfl rfl (by rfl) (hy := fun w hw => ?_) (h := ?_)
                  rotate_left
                  · go_simp; with_reducible rfl
                  try simp only [Act.put, List.setIfInBounds_toArray, List.set_cons_zero, List.set_cons_succ]
                  refine wpT_tk 7 45 (v := ?_) (Below.refl _ _) rfl rfl (by rfl) (hy := fun w hw => ?_) (h := ?_)
                  rotate_left
                  · go_simp; with_reducible rfl
                  try simp only [Act.put, List.setIfInBounds_toArray, List.set_cons_zero, List.set_cons_succ]
                  refine wpT_tk 8 46 (v := ?_) (Below.refl _ _) rfl rfl (by rfl) (hy := fun w hw => ?_) (h := ?_)
                  rotate_left
                  · go_simp; with_reducible rfl
                  try simp only [Act.put, List.setIfInBounds_toArray, List.set_cons_zero, List.set_cons_succ]
                  refine wpT_tk 9 47 (v := ?_) (Below.refl _ _) rfl rfl (by rfl) (hy := fun w hw => ?_) (h := ?_)
                  rotate_left
                  · go_simp; with_reducible rfl
                  try simp only [Act.put, List.setIfInBounds_toArray, List.set_cons_zero, List.set_cons_succ]
                  refine wpT_tk 10 48 (v := ?_) (Below.refl _ _) rfl rfl (by rfl) (hy := fun w hw => ?_) (h := ?_)
                  rotate_left
                  · go_simp; with_reducible rfl
                  try simp only [Act.put, List.setIfInBounds_toArray, List.set_cons_zero, List.set_cons_succ]
                  refine wpT_tk 11 49 (v := ?_) (Below.refl _ _) rfl rfl (by rfl) (hy := fun w hw => ?_) (h := ?_)
                  rotate_left
                  · go_simp; with_reducible rfl
                  try simp only [Act.put, List.setIfInBounds_toArray, List.set_cons_zero, List.set_cons_succ]
                  refine wpT_tk 12 50 (v := ?_) (Below.refl _ _) rfl rfl (by rfl) (hy := fun w hw => ?_) (h := ?_)
                  rotate_left
                  · go_simp; with_reducible rfl
                  try simp only [Act.put, List.setIfInBounds_toArray, List.set_cons_zero, List.set_cons_succ]
                  refine wpT_take 13 (d := some 51) (v := undef) (Below.refl _ _) rfl rfl (by kernel_rfl) (by kernel_rfl) (by kernel_rfl) (by kernel_rfl) (by kernel_rfl) (fun _ _ _ h => h) ⟨.inr ⟨by rfl, rfl⟩, fun _ => rfl⟩ ?_
                  try simp only [Act.put, List.setIfInBounds_toArray, List.set_cons_zero, List.set_cons_succ]
                  refine wpT_take 14 (d := some 52) (v := undef) (Below.refl _ _) rfl rfl (by kernel_rfl) (by kernel_rfl) (by kernel_rfl) (by kernel_rfl) (by kernel_rfl) (fun _ _ _ h => h) ⟨.inr ⟨by rfl, rfl⟩, fun _ => rfl⟩ ?_
                  try simp only [Act.put, List.setIfInBounds_toArray, List.set_cons_zero, List.set_cons_succ]
                  refine wpT_take 15 (d := some 53) (v := undef) (Below.refl _ _) rfl rfl (by kernel_rfl) (by kernel_rfl) (by kernel_rfl) (by kernel_rfl) (by kernel_rfl) (fun _ _ _ h => h) ⟨.inr ⟨by rfl, rfl⟩, fun _ => rfl⟩ ?_
                  try simp only [Act.put, List.setIfInBounds_toArray, List.set_cons_zero, List.set_cons_succ]
                  refine wpT_take 16 (d := some 54) (v := undef) (Below.refl _ _) rfl rfl (by kernel_rfl) (by kernel_rfl) (by kernel_rfl) (by kernel_rfl) (by kernel_rfl) (fun _ _ _ h => h) ⟨.inr ⟨by rfl, rfl⟩, fun _ => rfl⟩ ?_
                  try simp only [Act.put, List.setIfInBounds_toArray, List.set_cons_zero, List.set_cons_succ]
                  refine wpT_take 17 (d := some 55) (v := undef) (Below.refl _ _) rfl rfl (by kernel_rfl) (by kernel_rfl) (by kernel_rfl) (by kernel_rfl) (by kernel_rfl) (fun _ _ _ h => h) ⟨.inr ⟨by rfl, rfl⟩, fun _ => rfl⟩ ?_
                  try simp only [Act.put, List.setIfInBounds_toArray, List.set_cons_zero, List.set_cons_succ]
                  refine wpT_take 18 (d := some 56) (v := undef) (Below.refl _ _) rfl rfl (by kernel_rfl) (by kernel_rfl) (by kernel_rfl) (by kernel_rfl) (by kernel_rfl) (fun _ _ _ h => h) ⟨.inr ⟨by rfl, rfl⟩, fun _ => rfl⟩ ?_
                  try simp only [Act.put, List.setIfInBounds_toArray, List.set_cons_zero, List.set_cons_succ]
                  refine wpT_take 20 (d := some 58) (v := undef) (Below.refl _ _) rfl rfl (by kernel_rfl) (by kernel_rfl) (by kernel_rfl) (by kernel_rfl) (by kernel_rfl) (fun _ _ _ h => h) ⟨.inr ⟨by rfl, rfl⟩, fun _ => rfl⟩ ?_
                  try simp only [Act.put, List.setIfInBounds_toArray, List.set_cons_zero, List.set_cons_succ]
                  refine wpT_take 21 (d := some 59) (v := undef) (Below.refl _ _) rfl rfl (by kernel_rfl) (by kernel_rfl) (by kernel_rfl) (by kernel_rfl) (by kernel_rfl) (fun _ _ _ h => h) ⟨.inr ⟨by rfl, rfl⟩, fun _ => rfl⟩ ?_
                  try simp only [Act.put, List.setIfInBounds_toArray, List.set_cons_zero, List.set_cons_succ]
                  refine wpT_take 22 (d := some 60) (v := undef) (Below.refl _ _) rfl rfl (by kernel_rfl) (by kernel_rfl) (by kernel_rfl) (by kernel_rfl) (by kernel_rfl) (fun _ _ _ h => h) ⟨.inr ⟨by rfl, rfl⟩, fun _ => rfl⟩ ?_
                  try simp only [Act.put, List.setIfInBounds_toArray, List.set_cons_zero, List.set_cons_succ]
                  refine wpT_take 23 (d := some 61) (v := undef) (Below.refl _ _) rfl rfl (by kernel_rfl) (by kernel_rfl) (by kernel_rfl) (by kernel_rfl) (by kernel_rfl) (fun _ _ _ h => h) ⟨.inr ⟨by rfl, rfl⟩, fun _ => rfl⟩ ?_
                  try simp only [Act.put, List.setIfInBounds_toArray, List.set_cons_zero, List.set_cons_succ]
                  refine wpT_skipone 19 rfl (by rfl) (by kernel_rfl) (fun _ _ => trivial) ⟨fun _ => Below.refl _ _, ?_⟩
                  try simp only [Act.put, List.setIfInBounds_toArray, List.set_cons_zero, List.set_cons_succ]
                  refine wpT_skipone 24 rfl (by rfl) (by kernel_rfl) (fun _ _ => trivial) ⟨fun _ => Below.refl _ _, ?_⟩
                  try simp only [Act.put, List.setIfInBounds_toArray, List.set_cons_zero, List.set_cons_succ]
                  refine wpT_skipone 25 rfl (by rfl) (by kernel_rfl) (fun _ _ => trivial) ⟨fun _ => Below.refl _ _, ?_⟩
                  try simp only [Act.put, List.setIfInBounds_toArray, List.set_cons_zero, List.set_cons_succ]
                  refine wpT_oneW 26 rfl (by rfl) (by kernel_rfl) ?_
                  go_simp
                  refine wpT_done (by kernel_rfl) ?_ _
                  have HB7 := Lib.hid (belowStep HB5.out hd)
                  clear hd
                  go_wp2_with fail
                  go_roundw
                  case rel => exact ⟨k + 1, by omega, by go_num, HR.out, HB7.out⟩
                  case measure => simp [intOf]; omega
                · have hki' : ¬ (k : Int) = i := by omega
                  have hkm' : ¬ (k : Int) = m := by omega
                  have hki3 : ((k : Int) != i) = true := by simp; omega
                  have hkm3 : ((k : Int) != m) = true := by simp; omega
                  have hkd : decide ((k : Int) = i) = false := decide_eq_false hki'
                  have hkd2 : decide ((k : Int) = m) = false := decide_eq_false hkm'
                  go_wp2_with fail
                  refine (wpIn_wide (n := 5)).1 ?_
                  refine wpIn_region_T (fun w' => Below wr.drew.heap.size wr.drew w') 24 (by kernel_rfl) ?_
                  have hd : Below wr.heap.size wr wr.drew := (Below.refl _ _).drew
                  generalize wr.drew = wd at *
                  have c0 := keptBelow hd c0
                  have c1 := keptBelow hd c1
                  have d0 := keptBelow hd d0
                  have d1 := keptBelow hd d1
                  refine wpT_tk 0 38 (v := ?_) (Below.refl _ _) rfl rfl (by rfl) (hy := fun w hw => ?_) (h := ?_)
                  rotate_left
                  · go_simp; with_reducible rfl
                  try simp only [Act.put, List.setIfInBounds_toArray, List.set_cons_zero, List.set_cons_succ]
                  refine wpT_tk 1 39 (v := ?_) (Below.refl _ _) rfl rfl (by rfl) (hy := fun w hw => ?_) (h := ?_)
                  rotate_left
                  · go_simp; with_reducible rfl
                  try simp only [Act.put, List.setIfInBounds_toArray, List.set_cons_zero, List.set_cons_succ]
                  refine wpT_tk 2 40 (v := ?_) (Below.refl _ _) rfl rfl (by rfl) (hy := fun w hw => ?_) (h := ?_)
                  rotate_left
                  · go_simp; with_reducible rfl
                  try simp only [Act.put, List.setIfInBounds_toArray, List.set_cons_zero, List.set_cons_succ]
                  refine wpT_tk 3 41 (v := ?_) (Below.refl _ _) rfl rfl (by rfl) (hy := fun w hw => ?_) (h := ?_)
                  rotate_left
                  · go_simp; with_reducible rfl
                  try simp only [Act.put, List.setIfInBounds_toArray, List.set_cons_zero, List.set_cons_succ]
                  refine wpT_tk 4 42 (v := ?_) (Below.refl _ _) rfl rfl (by rfl) (hy := fun w hw => ?_) (h := ?_)
                  rotate_left
                  · go_simp; with_reducible rfl
                  try simp only [Act.put, List.setIfInBounds_toArray, List.set_cons_zero, List.set_cons_succ]
                  refine wpT_tk 5 43 (v := ?_) (Below.refl _ _) rfl rfl (by rfl) (hy := fun w hw => ?_) (h := ?_)
                  rotate_left
                  · go_simp; with_reducible rfl
                  try simp only [Act.put, List.setIfInBounds_toArray, List.set_cons_zero, List.set_cons_succ]
                  refine wpT_tk 6 44 (v := ?_) (Below.refl _ _) rfl rfl (by rfl) (hy := fun w hw => ?_) (h := ?_)
                  rotate_left
                  · go_simp; with_reducible rfl
                  try simp only [Act.put, List.setIfInBounds_toArray, List.set_cons_zero, List.set_cons_succ]
                  refine wpT_tk 7 45 (v := ?_) (Below.refl _ _) rfl rfl (by rfl) (hy := fun w hw => ?_) (h := ?_)
                  rotate_left
                  · go_simp; with_reducible rfl
                  try simp only [Act.put, List.setIfInBounds_toArray, List.set_cons_zero, List.set_cons_succ]
                  refine wpT_tk 8 46 (v := ?_) (Below.refl _ _) rfl rfl (by rfl) (hy := fun w hw => ?_) (h := ?_)
                  rotate_left
                  · go_simp; with_reducible rfl
                  try simp only [Act.put, List.setIfInBounds_toArray, List.set_cons_zero, List.set_cons_succ]
                  refine wpT_tk 9 47 (v := ?_) (Below.refl _ _) rfl rfl (by rfl) (hy := fun w hw => ?_) (h := ?_)
                  rotate_left
                  · go_simp; with_reducible rfl
                  try simp only [Act.put, List.setIfInBounds_toArray, List.set_cons_zero, List.set_cons_succ]
                  refine wpT_tk 10 48 (v := ?_) (Below.refl _ _) rfl rfl (by rfl) (hy := fun w hw => ?_) (h := ?_)
                  rotate_left
                  · go_simp; with_reducible rfl
                  try simp only [Act.put, List.setIfInBounds_toArray, List.set_cons_zero, List.set_cons_succ]
                  refine wpT_tk 11 49 (v := ?_) (Below.refl _ _) rfl rfl (by rfl) (hy := fun w hw => ?_) (h := ?_)
                  rotate_left
                  · go_simp; with_reducible rfl
                  try simp only [Act.put, List.setIfInBounds_toArray, List.set_cons_zero, List.set_cons_succ]
                  refine wpT_tk 12 50 (v := ?_) (Below.refl _ _) rfl rfl (by rfl) (hy := fun w hw => ?_) (h := ?_)
                  rotate_left
                  · go_simp; with_reducible rfl
                  try simp only [Act.put, List.setIfInBounds_toArray, List.set_cons_zero, List.set_cons_succ]
                  refine wpT_tk 13 51 (v := ?_) (Below.refl _ _) rfl rfl (by rfl) (hy := fun w hw => ?_) (h := ?_)
                  rotate_left
                  · go_simp; with_reducible rfl
                  try simp only [Act.put, List.setIfInBounds_toArray, List.set_cons_zero, List.set_cons_succ]
                  refine wpT_tk 14 52 (v := ?_) (Below.refl _ _) rfl rfl (by rfl) (hy := fun w hw => ?_) (h := ?_)
                  rotate_left
                  · go_simp; with_reducible rfl
                  try simp only [Act.put, List.setIfInBounds_toArray, List.set_cons_zero, List.set_cons_succ]
                  refine wpT_tk 15 53 (v := ?_) (Below.refl _ _) rfl rfl (by rfl) (hy := fun w hw => ?_) (h := ?_)
                  rotate_left
                  · go_simp; with_reducible rfl
                  try simp only [Act.put, List.setIfInBounds_toArray, List.set_cons_zero, List.set_cons_succ]
                  refine wpT_tk 16 54 (v := ?_) (Below.refl _ _) rfl rfl (by rfl) (hy := fun w hw => ?_) (h := ?_)
                  rotate_left
                  · have c0 := keptBelow hw c0; have c1 := keptBelow hw c1; go_simp; with_reducible rfl
                  try simp only [Act.put, List.setIfInBounds_toArray, List.set_cons_zero, List.set_cons_succ]
                  refine wpT_tk 17 55 (v := ?_) (Below.refl _ _) rfl rfl (by rfl) (hy := fun w hw => ?_) (h := ?_)
                  rotate_left
                  · go_simp; with_reducible rfl
                  try simp only [Act.put, List.setIfInBounds_toArray, List.set_cons_zero, List.set_cons_succ]
                  refine wpT_tk 18 56 (v := ?_) (Below.refl _ _) rfl rfl (by rfl) (hy := fun w hw => ?_) (h := ?_)
                  rotate_left
                  · go_simp; with_reducible rfl
                  try simp only [Act.put, List.setIfInBounds_toArray, List.set_cons_zero, List.set_cons_succ]
                  refine wpT_tk 20 58 (v := ?_) (Below.refl _ _) rfl rfl (by rfl) (hy := fun w hw => ?_) (h := ?_)
                  rotate_left
                  · go_simp; with_reducible rfl
                  try simp only [Act.put, List.setIfInBounds_toArray, List.set_cons_zero, List.set_cons_succ]
                  refine wpT_tk 21 59 (v := ?_) (Below.refl _ _) rfl rfl (by rfl) (hy := fun w hw => ?_) (h := ?_)
                  rotate_left
                  · go_simp; with_reducible rfl
                  try simp only [Act.put, List.setIfInBounds_toArray, List.set_cons_zero, List.set_cons_succ]
                  refine wpT_tk 22 60 (v := ?_) (Below.refl _ _) rfl rfl (by rfl) (hy := fun w hw => ?_) (h := ?_)
                  rotate_left
                  · go_simp; with_reducible rfl
                  try simp only [Act.put, List.setIfInBounds_toArray, List.set_cons_zero, List.set_cons_succ]
                  refine wpT_tk 23 61 (v := ?_) (Below.refl _ _) rfl rfl (by rfl) (hy := fun w hw => ?_) (h := ?_)
                  rotate_left
                  · have d0 := keptBelow hw d0; have d1 := keptBelow hw d1; go_simp; with_reducible rfl
                  try simp only [Act.put, List.setIfInBounds_toArray, List.set_cons_zero, List.set_cons_succ]
                  refine wpT_oneW 19 rfl (by rfl) (by kernel_rfl) ?_
                  go_simp
                  refine ⟨trivial, ?_⟩
                  refine (callsIn_wide.2 (HEND.out wd (belowStep HB5.out hd))).mono ?_
                  rintro e w6 ⟨rfl, hB6⟩
                  refine ⟨hB6, ?_⟩
                  refine wpT_oneW 24 rfl (by rfl) (by kernel_rfl) ?_
                  go_simp
                  refine ⟨trivial, ?_⟩
                  refine (callsIn_wide.2 (HTU.out w6)).mono ?_
                  rintro e w7 ⟨rfl, hB7⟩
                  have HB7 := Lib.hid (belowStep HB5.out (belowStep hd (belowStep hB6 hB7)))
                  clear hB6 hB7 hd c0 c1 d0 d1
                  refine wpT_oneW 25 rfl (by rfl) (by kernel_rfl) ?_
                  go_simp
                  refine wpT_oneW 26 rfl (by rfl) (by kernel_rfl) ?_
                  go_simp
                  refine wpT_done (by kernel_rfl) ?_ _
                  by_cases hp : tt ≤ 0
                  · have HR := Lib.hid (HBAD.out hki hkm hp)
                    go_wp2_with fail
                    go_ret
                    exact ⟨ret_bool HR.out.symm, HB7.out⟩
                  · have hp' : 0 < tt := by omega
                    have HR := Lib.hid (HNX.out (fun _ _ => hp'))
                    clear hp
                    go_wp2_with fail
                    go_roundw
                    case rel => exact ⟨k + 1, by omega, by go_num, HR.out, HB7.out⟩
                    case measure => simp [intOf]; omega
            · obtain rfl : n = k := by omega
              have HR := Lib.hid (turns_row (by rw [← HNN.out]; exact HTK.out : TurnsTo l i l.length))
              go_wp2_with fail
              go_roundw
              case rel => exact ⟨i + 1, by omega, by go_num, HR.out, HB5.out⟩
              case measure => simp [intOf]; omega
        · obtain rfl : n = i := by omega
          have HR := Lib.hid (turns_val H3.out H8.out HON.out (by rw [← HNN.out]; exact HTT.out))
          go_wp2_with fail
          go_ret
          exact ⟨ret_bool HR.out.symm, HB4.out⟩
end Go.Proofs.YtcamncipkofgkaaDoor
/- PlnInside: The contracts of Moments, Lattice, Inside, Cell. -/
namespace Go.Proofs.YtcamncipkofgkaaDoor
open Go.RowKit Go.Shelf Pln

set_option maxHeartbeats 1000000 in
theorem moments_w (l : List Pt) (hl : Len l) (v : Value) (w : World) (hv : PtsAt w v l) :
    Calls Tryd.prog 53 #[v] w fun e w' => e = .returned (.tuple #[.int .i64 (mxP l), .int .i64 (myP l)]) ∧ Below w.heap.size w w' := by
  have HW := Lib.hid (valid_w l hl v w hv)
  rcases hb : valB l with _ | _
  · have HR : Hid (mxP l = 0) := Lib.hid (by unfold mxP; rw [hb]; rfl)
    have HR2 : Hid (myP l = 0) := Lib.hid (by unfold myP; rw [hb]; rfl)
    rw [hb] at HW
    clear hb hv
    go_enter Tryd.func53, Tryd.ntmps53
    go_wp2_with (go_at_call 48; (with_reducible refine HW.out.mono ?_); rintro e u3 ⟨rfl, hB3⟩)
    go_ret2
    exact ⟨ret_ii HR.out.symm HR2.out.symm, hB3⟩
  · have vl := (valB_iff l).1 hb
    have HT := Lib.hid (fun w1 (hB : Below w.heap.size w w1) => total_w l (fun a b => (a.1 + b.1) * crs a b) 81 (enters_of Tryd.func81 (by kernel_rfl) rfl) v w1 (hv.via hB) (by have := vl.hi; omega)
      (fun k hk w2 => mx_w _ _ (val_smls vl k hk) (val_smls vl _ (mod_lt' hk)) w2) (fun k hk => by have := mx_sum vl k hk; omega))
    have HT2 := Lib.hid (fun w1 (hB : Below w.heap.size w w1) => total_w l (fun a b => (a.2 + b.2) * crs a b) 82 (enters_of Tryd.func82 (by kernel_rfl) rfl) v w1 (hv.via hB) (by have := vl.hi; omega)
      (fun k hk w2 => my_w _ _ (val_smls vl k hk) (val_smls vl _ (mod_lt' hk)) w2) (fun k hk => by have := my_sum vl k hk; omega))
    have HR : Hid (mxP l = sumE l (fun a b => (a.1 + b.1) * crs a b) l.length) := Lib.hid (by unfold mxP; rw [if_pos hb])
    have HR2 : Hid (myP l = sumE l (fun a b => (a.2 + b.2) * crs a b) l.length) := Lib.hid (by unfold myP; rw [if_pos hb])
    generalize sumE l (fun a b => (a.1 + b.1) * crs a b) l.length = sx at *
    generalize sumE l (fun a b => (a.2 + b.2) * crs a b) l.length = sy at *
    rw [hb] at HW
    clear hb hv vl
    go_enter Tryd.func53, Tryd.ntmps53
    go_wp2_with fail
    refine HW.out.mono ?_
    rintro e u3 ⟨rfl, hB3⟩
    go_wp2_with fail
    refine (HT.out _ hB3).mono ?_
    rintro e u4 ⟨rfl, hB4⟩
    have hB4 := belowStep hB3 hB4
    go_wp2_with fail
    refine (HT2.out _ hB4).mono ?_
    rintro e u5 ⟨rfl, hB5⟩
    have hB5 := belowStep hB4 hB5
    go_wp2_with fail
    go_ret2
    exact ⟨ret_ii HR.out.symm HR2.out.symm, hB5⟩
theorem one_at {w : World} {p : Pt} (hp : I64P p) (B : Nat) (h0 : w.cell? ⟨B, 0, none⟩ = some (.int .i64 p.1)) (h1 : w.cell? ⟨B, 1, none⟩ = some (.int .i64 p.2)) : PtsAt w (.slice (some ⟨B, 0, none⟩) 1 1) [p] := by
  refine ⟨⟨some ⟨B, 0, none⟩, 1, rfl, by simp, by omega, .inr ⟨B, 0, rfl, fun j hj => ?_⟩⟩, fun r hr => ?_⟩
  · obtain rfl : j = 0 := by simpa using hj
    exact ⟨h0, h1⟩
  · obtain rfl : r = p := by simpa using hr
    exact hp
theorem onsB_one (p : Pt) : onsB [p] 1 = onB p := by unfold onsB; simp [List.range_succ]; rfl
set_option maxHeartbeats 1000000 in
theorem inside_w (l : List Pt) (hl : Len l) (p : Pt) (hp : I64P p) (v : Value) (w : World) (hv : PtsAt w v l) :
    Calls Tryd.prog 40 #[v, pv p] w fun e w' => e = .returned (.int .i64 (insP l p)) ∧ Below w.heap.size w w' := by
  have HW := Lib.hid (fun w1 (hB : Below w.heap.size w w1) => valid_w l hl v w1 (hv.via hB))
  have hb0 := alloc_below w (.cells #[.int .i64 p.1, .int .i64 p.2] 38)
  unfold pv
  rcases hb : valB l with _ | _
  · have HR : Hid (insP l p = -1) := Lib.hid (by unfold insP; rw [hb]; simp)
    rw [hb] at HW
    clear hb hv
    go_enter Tryd.func40, Tryd.ntmps40
    go_wp2_with (go_at_call 48; (with_reducible refine (HW.out _ hb0).mono ?_); rintro e u3 ⟨rfl, hB3⟩)
    go_ret
    exact ⟨ret_int HR.out.symm, belowStep hb0 hB3⟩
  · have vl := (valB_iff l).1 hb
    have HO := Lib.hid (fun w1 => onMap_w [p] (by simp) _ (w1.alloc (.cells #[.int .i64 p.1, .int .i64 p.2] 38)) (one_at hp w1.heap.size (cell_rowN w1 _ _ 0 rfl) (cell_rowN w1 _ _ 1 rfl)))
    have HP := Lib.hid (fun (h : onB p = true) w1 (hB : Below w.heap.size w w1) => position_w l p v w1 (hv.via hB) (by have := vl.hi; omega) (val_smls vl) (on_sml ((onB_iff p).1 h)))
    have HR : Hid (insP l p = if onB p = true then posP l p else -1) := Lib.hid (by unfold insP; rw [hb]; simp)
    rw [hb] at HW
    clear hb hv vl
    have e1 : ([p] : List Pt).length = 1 := rfl
    rw [e1, onsB_one] at HO
    clear e1
    go_enter Tryd.func40, Tryd.ntmps40
    go_wp2_with fail
    refine (HW.out _ hb0).mono ?_
    rintro e u3 ⟨rfl, hB3⟩
    have c0 := keptBelow hB3 (cell_rowN w _ 38 0 rfl)
    have c1 := keptBelow hB3 (cell_rowN w _ 38 1 rfl)
    have hB3 := belowStep hb0 hB3
    go_wp2_with fail
    refine (HO.out _).mono ?_
    rintro e u4 ⟨rfl, hB4⟩
    have hB5 := belowStep (alloc_below u3 _) hB4
    have c0 := keptBelow hB5 c0
    have c1 := keptBelow hB5 c1
    have hB5 := belowStep hB3 hB5
    clear hB4 hB3 hb0
    rcases ho : onB p with _ | _
    · rw [if_neg (by rw [ho]; simp)] at HR
      clear ho
      go_wp2_with fail
      go_ret
      exact ⟨ret_int HR.out.symm, hB5⟩
    · rw [if_pos ho] at HR
      have HP2 := Lib.hid (HP.out ho)
      unfold pv at HP2
      clear ho
      go_wp2_with fail
      refine (HP2.out _ hB5).mono ?_
      rintro e u6 ⟨rfl, hB6⟩
      go_wp2_with fail
      go_ret
      exact ⟨ret_int HR.out.symm, belowStep hB5 hB6⟩
end Go.Proofs.YtcamncipkofgkaaDoor
/- PlnCell: The contracts of Cell and Move. -/
namespace Go.Proofs.YtcamncipkofgkaaDoor
open Go.RowKit Go.Shelf Pln

theorem dbl_ok {l : List Pt} (v : Val l) : PtsOk (dbl l) := fun r hr => by
  unfold dbl at hr
  obtain ⟨q, hq, rfl⟩ := List.mem_map.1 hr
  obtain ⟨i, hi, rfl⟩ := mem_vx hq
  have o := v.on i hi
  have := o.x0; have := o.x1; have := o.y0; have := o.y1
  exact ⟨⟨by dsimp only; omega, by dsimp only; omega⟩, by dsimp only; omega, by dsimp only; omega⟩
theorem dbl_smls {l : List Pt} (v : Val l) : Smls (dbl l) := fun i hi => by
  rw [dbl_len] at hi
  rw [dbl_vx]
  have o := v.on i hi
  have := o.x0; have := o.x1; have := o.y0; have := o.y1
  exact ⟨by dsimp only; omega, by dsimp only; omega, by dsimp only; omega, by dsimp only; omega⟩
end Go.Proofs.YtcamncipkofgkaaDoor
/- PlnMove: The contract of Move. -/
namespace Go.Proofs.YtcamncipkofgkaaDoor
open Go.RowKit Go.Shelf Pln

theorem wrap_cases {x : Int} (h1 : -9223372036854775808 ≤ x) (h2 : x ≤ 9223372036854775900) : (x ≤ 9223372036854775807 ∧ wrap64 x = x) ∨ (9223372036854775807 < x ∧ wrap64 x < 0) := by
  unfold wrap64
  omega
theorem wrap_i64 (x : Int) : I64 (wrap64 x) := by unfold wrap64 I64; omega
/-- A place moved, as the machine adds. -/
def mvd (dx dy : Int) (p : Pt) : Pt := (wrap64 (p.1 + dx), wrap64 (p.2 + dy))
theorem mvd_on {p : Pt} {dx dy : Int} (hp : On p) (hx : I64 dx) (hy : I64 dy) : onB (mvd dx dy p) = onB (p.1 + dx, p.2 + dy) ∧ (onB (mvd dx dy p) = true → mvd dx dy p = (p.1 + dx, p.2 + dy)) := by
  have h1 := hp.x0; have h2 := hp.x1; have h3 := hp.y0; have h4 := hp.y1
  obtain ⟨x1, x2⟩ := hx
  obtain ⟨y1, y2⟩ := hy
  have a := wrap_cases (x := p.1 + dx) (by omega) (by omega)
  have b := wrap_cases (x := p.2 + dy) (by omega) (by omega)
  have key : On (mvd dx dy p) ↔ On (p.1 + dx, p.2 + dy) := by
    unfold mvd
    constructor
    · intro h
      have := h.x0; have := h.x1; have := h.y0; have := h.y1
      dsimp only at *
      exact ⟨by dsimp only; omega, by dsimp only; omega, by dsimp only; omega, by dsimp only; omega⟩
    · intro h
      have := h.x0; have := h.x1; have := h.y0; have := h.y1
      dsimp only at *
      exact ⟨by dsimp only; omega, by dsimp only; omega, by dsimp only; omega, by dsimp only; omega⟩
  refine ⟨?_, fun h => ?_⟩
  · rw [Bool.eq_iff_iff, onB_iff, onB_iff]; exact key
  · have h := key.1 ((onB_iff _).1 h)
    have := h.x0; have := h.x1; have := h.y0; have := h.y1
    dsimp only at *
    unfold mvd
    exact Prod.ext (by dsimp only; omega) (by dsimp only; omega)
theorem mvd_all {l : List Pt} {dx dy : Int} (v : Val l) (hx : I64 dx) (hy : I64 dy) : onsB (l.map (mvd dx dy)) (l.map (mvd dx dy)).length = (shf l dx dy).all onB ∧ (onsB (l.map (mvd dx dy)) (l.map (mvd dx dy)).length = true → l.map (mvd dx dy) = shf l dx dy) := by
  have h1 : ∀ p ∈ l, On p := fun p hp => by obtain ⟨i, hi, rfl⟩ := mem_vx hp; exact v.on i hi
  have e1 : onsB (l.map (mvd dx dy)) (l.map (mvd dx dy)).length = (l.map (mvd dx dy)).all onB := by
    rw [Bool.eq_iff_iff, onsB_iff, List.all_eq_true]
    constructor
    · intro h p hp
      obtain ⟨i, hi, rfl⟩ := mem_vx hp
      exact (onB_iff _).2 (h i hi)
    · intro h i hi
      exact (onB_iff _).1 (h _ (vx_mem hi))
  rw [e1]
  have e2 : (l.map (mvd dx dy)).all onB = (shf l dx dy).all onB := by
    unfold shf
    rw [List.all_map, List.all_map, Bool.eq_iff_iff, List.all_eq_true, List.all_eq_true]
    constructor
    · intro h p hp
      have := h p hp
      have e := (mvd_on (h1 p hp) hx hy).1
      rw [Function.comp_apply] at this ⊢
      rw [← e]; exact this
    · intro h p hp
      have := h p hp
      have e := (mvd_on (h1 p hp) hx hy).1
      rw [Function.comp_apply] at this ⊢
      rw [e]; exact this
  refine ⟨e2, fun h => ?_⟩
  unfold shf
  apply List.map_congr_left
  intro p hp
  rw [List.all_eq_true] at h
  exact (mvd_on (h1 p hp) hx hy).2 (h _ (List.mem_map_of_mem hp))
set_option maxHeartbeats 1000000 in
theorem moved_w (p : Pt) (dx dy : Int) (B1 B2 : Nat) (w : World) (h1 : w.cell? ⟨B1, 0, none⟩ = some (.int .i64 dx)) (h2 : w.cell? ⟨B2, 0, none⟩ = some (.int .i64 dy)) :
    Calls Tryd.prog 70 #[pv p, .pointer (some ⟨B1, 0, none⟩), .pointer (some ⟨B2, 0, none⟩)] w fun e w' => e = .returned (pv (mvd dx dy p)) ∧ Below w.heap.size w w' := by
  obtain ⟨p1, p2⟩ := p
  unfold pv mvd
  dsimp only
  have hB := ((Below.refl _ w).alloc (Nat.le_refl _) (.cells #[.int .i64 p1, .int .i64 p2] 38)).alloc (by simp) (.cells #[.int .i64 0, .int .i64 0] 38)
  have k1 := keptBelow hB h1
  have k2 := keptBelow hB h2
  go_enter Tryd.func70, Tryd.ntmps70
  go_wp2
  refine bodyPost_ret (v := .agg #[.int .i64 (wrap64 (p1 + dx)), .int .i64 (wrap64 (p2 + dy))]) (by simp [results, Tryd.results70, go_sem]) rfl ⟨rfl, ?_⟩
  exact ((Below.refl _ _).alloc (Nat.le_refl _) _).alloc (by simp) _
/-- What Move returns. -/
def MoveR (o : Option (List Pt)) (w : World) (e : Ending) (w' : World) : Prop :=
  (∃ l r, o = some l ∧ e = .returned (.tuple #[r, .int .i64 0]) ∧ PtsAt w' r l ∧ Below w.heap.size w w') ∨
  (o = none ∧ e = .returned (.tuple #[.slice none 0 0, .int .i64 70]) ∧ Below w.heap.size w w')
set_option maxHeartbeats 1000000 in
theorem move_w (l : List Pt) (hl : Len l) (dx dy : Int) (hx : I64 dx) (hy : I64 dy) (v : Value) (w : World) (hv : PtsAt w v l) :
    Calls Tryd.prog 41 #[v, .int .i64 dx, .int .i64 dy] w (MoveR (moveP l dx dy) w) := by
  have HW := Lib.hid (fun w1 (hB : Below w.heap.size w w1) => valid_w l hl v w1 (hv.via hB))
  have hb0 := ((Below.refl _ w).alloc (Nat.le_refl _) (.cells #[.int .i64 dx] 3)).alloc (by simp) (.cells #[.int .i64 dy] 3)
  have k1 : ((w.alloc (.cells #[.int .i64 dx] 3)).alloc (.cells #[.int .i64 dy] 3)).cell? ⟨w.heap.size, 0, none⟩ = some (.int .i64 dx) := cellA _ (cell_rowN w _ _ 0 rfl)
  have k2 : ((w.alloc (.cells #[.int .i64 dx] 3)).alloc (.cells #[.int .i64 dy] 3)).cell? ⟨w.heap.size + 1, 0, none⟩ = some (.int .i64 dy) := by
    have := cell_rowN (w.alloc (.cells #[.int .i64 dx] 3)) #[.int .i64 dy] 3 0 rfl
    rwa [World.size_alloc] at this
  have K1 := Lib.hid k1
  have K2 := Lib.hid k2
  have HB0 := Lib.hid hb0
  clear k1 k2 hb0
  rcases hb : valB l with _ | _
  · have HR : Hid (moveP l dx dy = none) := Lib.hid (by unfold moveP; rw [hb]; rfl)
    rw [hb] at HW
    clear hb hv
    go_enter Tryd.func41, Tryd.ntmps41
    go_wp2_with (go_at_call 48; (with_reducible refine (HW.out _ HB0.out).mono ?_); rintro e u3 ⟨rfl, hB3⟩)
    go_ret2
    exact .inr ⟨HR.out, rfl, belowStep HB0.out hB3⟩
  · have vl := (valB_iff l).1 hb
    have hall := mvd_all vl hx hy
    have HR : Hid (moveP l dx dy = if (shf l dx dy).all onB = true then some (shf l dx dy) else none) := Lib.hid (by unfold moveP; rw [if_pos hb])
    have HC := Lib.hid (fun w1 (hB : Below w.heap.size w w1) (h1 : w1.cell? ⟨w.heap.size, 0, none⟩ = some (.int .i64 dx)) (h2 : w1.cell? ⟨w.heap.size + 1, 0, none⟩ = some (.int .i64 dy)) => changed_w l (by have := vl.hi; omega) (mvd dx dy) 70 #[.pointer (some ⟨w.heap.size, 0, none⟩), .pointer (some ⟨w.heap.size + 1, 0, none⟩)] (enters_of Tryd.func70 (by kernel_rfl) rfl) v w1 (hv.via hB)
      (fun k hk w2 hB2 => moved_w _ dx dy _ _ w2 (keptBelow hB2 h1) (keptBelow hB2 h2)) (fun r hr => by obtain ⟨q, _, rfl⟩ := List.mem_map.1 hr; exact ⟨wrap_i64 _, wrap_i64 _⟩))
    have HM := Lib.hid (fun r w1 (hr : PtsAt w1 r (l.map (mvd dx dy))) => onMap_w (l.map (mvd dx dy)) (by rw [List.length_map]; exact hl) r w1 hr)
    have HA := Lib.hid hall
    rw [hb] at HW
    clear hb hv vl hall
    go_enter Tryd.func41, Tryd.ntmps41
    go_wp2_with fail
    refine (HW.out _ HB0.out).mono ?_
    rintro e u3 ⟨rfl, hB3⟩
    have K1' := Lib.hid (keptBelow hB3 K1.out)
    have K2' := Lib.hid (keptBelow hB3 K2.out)
    have hB3 := belowStep HB0.out hB3
    go_wp2_with fail
    refine (HC.out _ hB3 K1'.out K2'.out).mono ?_
    rintro e u4 ⟨r, rfl, hr, hB4⟩
    have HRR := Lib.hid hr
    have hB4 := belowStep hB3 hB4
    clear hr
    go_wp2_with fail
    refine (HM.out _ _ HRR.out).mono ?_
    rintro e u5 ⟨rfl, hB5⟩
    have HR5 := Lib.hid (HRR.out.via hB5)
    have hB5 := belowStep hB4 hB5
    clear hB3 hB4
    rcases ho : onsB (l.map (mvd dx dy)) (l.map (mvd dx dy)).length with _ | _
    · have HR6 : Hid (moveP l dx dy = none) := Lib.hid (by rw [HR.out, if_neg (by rw [← HA.out.1, ho]; simp)])
      clear ho
      go_wp2_with fail
      go_ret2
      exact .inr ⟨HR6.out, rfl, hB5⟩
    · have HR6 : Hid (moveP l dx dy = some (l.map (mvd dx dy))) := Lib.hid (by rw [HR.out, if_pos (by rw [← HA.out.1, ho]), HA.out.2 ho])
      clear ho
      go_wp2_with fail
      go_ret2
      exact .inl ⟨_, _, HR6.out, rfl, HR5.out, hB5⟩
end Go.Proofs.YtcamncipkofgkaaDoor
/- PlnCut: The contracts of Cut, Side and Overlap. -/
namespace Go.Proofs.YtcamncipkofgkaaDoor
open Go.RowKit Go.Shelf Pln

/-- What Cut returns. -/
def CutR (o : Option (List Pt × List Pt)) (w : World) (e : Ending) (w' : World) : Prop :=
  (∃ a b r s, o = some (a, b) ∧ e = .returned (.tuple #[r, s, .int .i64 0]) ∧ PtsAt w' r a ∧ PtsAt w' s b ∧ Below w.heap.size w w') ∨
  (o = none ∧ e = .returned (.tuple #[.slice none 0 0, .slice none 0 0, .int .i64 70]) ∧ Below w.heap.size w w')
set_option maxRecDepth 100000 in
set_option maxHeartbeats 4000000 in
theorem cut_w (l : List Pt) (hl : Len l) (i k : Int) (hi : I64 i) (hk : I64 k) (v : Value) (w : World) (hv : PtsAt w v l) :
    Calls Tryd.prog 39 #[v, .int .i64 i, .int .i64 k] w (CutR (cutP l i k) w) := by
  have HW := Lib.hid (valid_w l hl v w hv)
  rcases hb : valB l with _ | _
  · have HR : Hid (cutP l i k = none) := Lib.hid (by unfold cutP; rw [hb]; simp)
    rw [hb] at HW
    clear hb hv
    go_enter Tryd.func39, Tryd.ntmps39
    go_wp2_with (go_at_call 48; (with_reducible refine HW.out.mono ?_); rintro e u3 ⟨rfl, hB3⟩)
    go_ret3
    exact .inr ⟨HR.out, rfl, hB3⟩
  · have vl := (valB_iff l).1 hb
    rw [hb] at HW
    have hv2 := hv
    obtain ⟨⟨a, c, rfl, _, _, _⟩, _⟩ := hv2
    obtain ⟨n, hn⟩ : ∃ n, n = l.length := ⟨_, rfl⟩
    have hnb : (n : Int) ≤ 8 := by have := vl.hi; omega
    obtain ⟨i1, i2⟩ := hi
    obtain ⟨k1, k2⟩ := hk
    rw [← hn] at HW ⊢
    by_cases hbad : i < 0 ∨ k < 0 ∨ (n : Int) ≤ i ∨ (n : Int) ≤ k
    · have HR : Hid (cutP l i k = none) := Lib.hid (by unfold cutP; rw [if_neg (by omega)])
      clear hb hv vl hn
      rcases Int.lt_trichotomy i k with h | h | h
      · skip
        by_cases h0 : i < 0
        · go_enter Tryd.func39, Tryd.ntmps39
          go_wp2_with (go_at_call 48; (with_reducible refine HW.out.mono ?_); rintro e u3 ⟨rfl, hB3⟩)
          go_ret3
          exact .inr ⟨HR.out, rfl, hB3⟩
        · have h0' : 0 ≤ i := by omega
          have h1 : (n : Int) ≤ k := by omega
          clear h0 hbad
          go_enter Tryd.func39, Tryd.ntmps39
          go_wp2_with (go_at_call 48; (with_reducible refine HW.out.mono ?_); rintro e u3 ⟨rfl, hB3⟩)
          go_ret3
          exact .inr ⟨HR.out, rfl, hB3⟩
      · subst h
        by_cases h0 : i < 0
        · go_enter Tryd.func39, Tryd.ntmps39
          go_wp2_with (go_at_call 48; (with_reducible refine HW.out.mono ?_); rintro e u3 ⟨rfl, hB3⟩)
          go_ret3
          exact .inr ⟨HR.out, rfl, hB3⟩
        · have h0' : 0 ≤ i := by omega
          have h1 : (n : Int) ≤ i := by omega
          clear h0 hbad
          go_enter Tryd.func39, Tryd.ntmps39
          go_wp2_with (go_at_call 48; (with_reducible refine HW.out.mono ?_); rintro e u3 ⟨rfl, hB3⟩)
          go_ret3
          exact .inr ⟨HR.out, rfl, hB3⟩
      · skip
        by_cases h0 : k < 0
        · go_enter Tryd.func39, Tryd.ntmps39
          go_wp2_with (go_at_call 48; (with_reducible refine HW.out.mono ?_); rintro e u3 ⟨rfl, hB3⟩)
          go_ret3
          exact .inr ⟨HR.out, rfl, hB3⟩
        · have h0' : 0 ≤ k := by omega
          have h1 : (n : Int) ≤ i := by omega
          clear h0 hbad
          go_enter Tryd.func39, Tryd.ntmps39
          go_wp2_with (go_at_call 48; (with_reducible refine HW.out.mono ?_); rintro e u3 ⟨rfl, hB3⟩)
          go_ret3
          exact .inr ⟨HR.out, rfl, hB3⟩
    · have hi0 : 0 ≤ i := by omega
      have hk0 : 0 ≤ k := by omega
      obtain ⟨iN, rfl⟩ : ∃ iN : Nat, i = iN := ⟨i.toNat, by omega⟩
      obtain ⟨kN, rfl⟩ : ∃ kN : Nat, k = kN := ⟨k.toNat, by omega⟩
      have hin : iN < l.length := by omega
      have hkn : kN < l.length := by omega
      have H1 := Lib.hid (fun w1 (hB : Below w.heap.size w w1) => run_w l (by have := vl.hi; omega) iN kN hin hkn _ w1 (hv.via hB))
      have H2 := Lib.hid (fun w1 (hB : Below w.heap.size w w1) => run_w l (by have := vl.hi; omega) kN iN hkn hin _ w1 (hv.via hB))
      have HR : Hid (cutP l (iN : Int) (kN : Int) = if min (runP l iN kN).length (runP l kN iN).length < 3 then none else some (runP l iN kN, runP l kN iN)) := Lib.hid (by unfold cutP; rw [if_pos ⟨hb, by omega, by omega⟩]; simp)
      have hl1 : (runP l iN kN).length ≤ 16 := by have := vl.hi; unfold runP; split <;> simp <;> omega
      have hl2 : (runP l kN iN).length ≤ 16 := by have := vl.hi; unfold runP; split <;> simp <;> omega
      generalize runP l iN kN = ra at *
      generalize runP l kN iN = rb at *
      have hinb : (iN : Int) < n := by omega
      have hknb : (kN : Int) < n := by omega
      rw [← hn] at H1 H2
      clear hb hv vl hn hin hkn hbad i1 i2 k1 k2
      rcases Int.lt_trichotomy (iN : Int) kN with h | h | h
      · skip
        go_enter Tryd.func39, Tryd.ntmps39
        go_wp2_with fail
        refine HW.out.mono ?_
        rintro e u3 ⟨rfl, hB3⟩
        go_wp2_with fail
        refine (H1.out _ hB3).mono ?_
        rintro e u4 ⟨r1, rfl, hr1, hB4⟩
        have hB4 := belowStep hB3 hB4
        have HR1 := Lib.hid hr1
        obtain ⟨⟨a1, c1, rfl, _, _, _⟩, _⟩ := hr1
        go_wp2_with fail
        refine (H2.out _ hB4).mono ?_
        rintro e u5 ⟨r2, rfl, hr2, hB5⟩
        have HR1 := Lib.hid (HR1.out.via hB5)
        have hB5 := belowStep hB4 hB5
        have HR2 := Lib.hid hr2
        obtain ⟨⟨a2, c2, rfl, _, _, _⟩, _⟩ := hr2
        obtain ⟨n1, hn1⟩ : ∃ n1, n1 = ra.length := ⟨_, rfl⟩
        obtain ⟨n2, hn2⟩ : ∃ n2, n2 = rb.length := ⟨_, rfl⟩
        have hb1 : (n1 : Int) ≤ 16 := by omega
        have hb2 : (n2 : Int) ≤ 16 := by omega
        rw [← hn1] at HR HR1 ⊢
        rw [← hn2] at HR HR2 ⊢
        clear hn1 hn2
        rcases Int.lt_trichotomy (n1 : Int) n2 with h5 | h5 | h5
        · skip
          by_cases h3 : (n1 : Int) < 3
          · have HRN : Hid (cutP l (iN : Int) (kN : Int) = none) := Lib.hid (by rw [HR.out, if_pos (by omega)])
            go_wp2_with fail
            go_ret3
            exact .inr ⟨HRN.out, rfl, hB5⟩
          · have HRS : Hid (cutP l (iN : Int) (kN : Int) = some (ra, rb)) := Lib.hid (by rw [HR.out, if_neg (by omega)])
            have h3' : 3 ≤ (n1 : Int) := by omega
            clear h3
            go_wp2_with fail
            go_ret3
            exact .inl ⟨ra, rb, _, _, HRS.out, rfl, HR1.out, HR2.out, hB5⟩
        · obtain rfl : n2 = n1 := (by omega); clear h5
          by_cases h3 : (n2 : Int) < 3
          · have HRN : Hid (cutP l (iN : Int) (kN : Int) = none) := Lib.hid (by rw [HR.out, if_pos (by omega)])
            go_wp2_with fail
            go_ret3
            exact .inr ⟨HRN.out, rfl, hB5⟩
          · have HRS : Hid (cutP l (iN : Int) (kN : Int) = some (ra, rb)) := Lib.hid (by rw [HR.out, if_neg (by omega)])
            have h3' : 3 ≤ (n2 : Int) := by omega
            clear h3
            go_wp2_with fail
            go_ret3
            exact .inl ⟨ra, rb, _, _, HRS.out, rfl, HR1.out, HR2.out, hB5⟩
        · skip
          by_cases h3 : (n2 : Int) < 3
          · have HRN : Hid (cutP l (iN : Int) (kN : Int) = none) := Lib.hid (by rw [HR.out, if_pos (by omega)])
            go_wp2_with fail
            go_ret3
            exact .inr ⟨HRN.out, rfl, hB5⟩
          · have HRS : Hid (cutP l (iN : Int) (kN : Int) = some (ra, rb)) := Lib.hid (by rw [HR.out, if_neg (by omega)])
            have h3' : 3 ≤ (n2 : Int) := by omega
            clear h3
            go_wp2_with fail
            go_ret3
            exact .inl ⟨ra, rb, _, _, HRS.out, rfl, HR1.out, HR2.out, hB5⟩
      · obtain rfl : kN = iN := (by omega)
        clear h
        go_enter Tryd.func39, Tryd.ntmps39
        go_wp2_with fail
        refine HW.out.mono ?_
        rintro e u3 ⟨rfl, hB3⟩
        go_wp2_with fail
        refine (H1.out _ hB3).mono ?_
        rintro e u4 ⟨r1, rfl, hr1, hB4⟩
        have hB4 := belowStep hB3 hB4
        have HR1 := Lib.hid hr1
        obtain ⟨⟨a1, c1, rfl, _, _, _⟩, _⟩ := hr1
        go_wp2_with fail
        refine (H2.out _ hB4).mono ?_
        rintro e u5 ⟨r2, rfl, hr2, hB5⟩
        have HR1 := Lib.hid (HR1.out.via hB5)
        have hB5 := belowStep hB4 hB5
        have HR2 := Lib.hid hr2
        obtain ⟨⟨a2, c2, rfl, _, _, _⟩, _⟩ := hr2
        obtain ⟨n1, hn1⟩ : ∃ n1, n1 = ra.length := ⟨_, rfl⟩
        obtain ⟨n2, hn2⟩ : ∃ n2, n2 = rb.length := ⟨_, rfl⟩
        have hb1 : (n1 : Int) ≤ 16 := by omega
        have hb2 : (n2 : Int) ≤ 16 := by omega
        rw [← hn1] at HR HR1 ⊢
        rw [← hn2] at HR HR2 ⊢
        clear hn1 hn2
        rcases Int.lt_trichotomy (n1 : Int) n2 with h5 | h5 | h5
        · skip
          by_cases h3 : (n1 : Int) < 3
          · have HRN : Hid (cutP l (kN : Int) (kN : Int) = none) := Lib.hid (by rw [HR.out, if_pos (by omega)])
            go_wp2_with fail
            go_ret3
            exact .inr ⟨HRN.out, rfl, hB5⟩
          · have HRS : Hid (cutP l (kN : Int) (kN : Int) = some (ra, rb)) := Lib.hid (by rw [HR.out, if_neg (by omega)])
            have h3' : 3 ≤ (n1 : Int) := by omega
            clear h3
            go_wp2_with fail
            go_ret3
            exact .inl ⟨ra, rb, _, _, HRS.out, rfl, HR1.out, HR2.out, hB5⟩
        · obtain rfl : n2 = n1 := (by omega); clear h5
          by_cases h3 : (n2 : Int) < 3
          · have HRN : Hid (cutP l (kN : Int) (kN : Int) = none) := Lib.hid (by rw [HR.out, if_pos (by omega)])
            go_wp2_with fail
            go_ret3
            exact .inr ⟨HRN.out, rfl, hB5⟩
          · have HRS : Hid (cutP l (kN : Int) (kN : Int) = some (ra, rb)) := Lib.hid (by rw [HR.out, if_neg (by omega)])
            have h3' : 3 ≤ (n2 : Int) := by omega
            clear h3
            go_wp2_with fail
            go_ret3
            exact .inl ⟨ra, rb, _, _, HRS.out, rfl, HR1.out, HR2.out, hB5⟩
        · skip
          by_cases h3 : (n2 : Int) < 3
          · have HRN : Hid (cutP l (kN : Int) (kN : Int) = none) := Lib.hid (by rw [HR.out, if_pos (by omega)])
            go_wp2_with fail
            go_ret3
            exact .inr ⟨HRN.out, rfl, hB5⟩
          · have HRS : Hid (cutP l (kN : Int) (kN : Int) = some (ra, rb)) := Lib.hid (by rw [HR.out, if_neg (by omega)])
            have h3' : 3 ≤ (n2 : Int) := by omega
            clear h3
            go_wp2_with fail
            go_ret3
            exact .inl ⟨ra, rb, _, _, HRS.out, rfl, HR1.out, HR2.out, hB5⟩
      · skip
        go_enter Tryd.func39, Tryd.ntmps39
        go_wp2_with fail
        refine HW.out.mono ?_
        rintro e u3 ⟨rfl, hB3⟩
        go_wp2_with fail
        refine (H1.out _ hB3).mono ?_
        rintro e u4 ⟨r1, rfl, hr1, hB4⟩
        have hB4 := belowStep hB3 hB4
        have HR1 := Lib.hid hr1
        obtain ⟨⟨a1, c1, rfl, _, _, _⟩, _⟩ := hr1
        go_wp2_with fail
        refine (H2.out _ hB4).mono ?_
        rintro e u5 ⟨r2, rfl, hr2, hB5⟩
        have HR1 := Lib.hid (HR1.out.via hB5)
        have hB5 := belowStep hB4 hB5
        have HR2 := Lib.hid hr2
        obtain ⟨⟨a2, c2, rfl, _, _, _⟩, _⟩ := hr2
        obtain ⟨n1, hn1⟩ : ∃ n1, n1 = ra.length := ⟨_, rfl⟩
        obtain ⟨n2, hn2⟩ : ∃ n2, n2 = rb.length := ⟨_, rfl⟩
        have hb1 : (n1 : Int) ≤ 16 := by omega
        have hb2 : (n2 : Int) ≤ 16 := by omega
        rw [← hn1] at HR HR1 ⊢
        rw [← hn2] at HR HR2 ⊢
        clear hn1 hn2
        rcases Int.lt_trichotomy (n1 : Int) n2 with h5 | h5 | h5
        · skip
          by_cases h3 : (n1 : Int) < 3
          · have HRN : Hid (cutP l (iN : Int) (kN : Int) = none) := Lib.hid (by rw [HR.out, if_pos (by omega)])
            go_wp2_with fail
            go_ret3
            exact .inr ⟨HRN.out, rfl, hB5⟩
          · have HRS : Hid (cutP l (iN : Int) (kN : Int) = some (ra, rb)) := Lib.hid (by rw [HR.out, if_neg (by omega)])
            have h3' : 3 ≤ (n1 : Int) := by omega
            clear h3
            go_wp2_with fail
            go_ret3
            exact .inl ⟨ra, rb, _, _, HRS.out, rfl, HR1.out, HR2.out, hB5⟩
        · obtain rfl : n2 = n1 := (by omega); clear h5
          by_cases h3 : (n2 : Int) < 3
          · have HRN : Hid (cutP l (iN : Int) (kN : Int) = none) := Lib.hid (by rw [HR.out, if_pos (by omega)])
            go_wp2_with fail
            go_ret3
            exact .inr ⟨HRN.out, rfl, hB5⟩
          · have HRS : Hid (cutP l (iN : Int) (kN : Int) = some (ra, rb)) := Lib.hid (by rw [HR.out, if_neg (by omega)])
            have h3' : 3 ≤ (n2 : Int) := by omega
            clear h3
            go_wp2_with fail
            go_ret3
            exact .inl ⟨ra, rb, _, _, HRS.out, rfl, HR1.out, HR2.out, hB5⟩
        · skip
          by_cases h3 : (n2 : Int) < 3
          · have HRN : Hid (cutP l (iN : Int) (kN : Int) = none) := Lib.hid (by rw [HR.out, if_pos (by omega)])
            go_wp2_with fail
            go_ret3
            exact .inr ⟨HRN.out, rfl, hB5⟩
          · have HRS : Hid (cutP l (iN : Int) (kN : Int) = some (ra, rb)) := Lib.hid (by rw [HR.out, if_neg (by omega)])
            have h3' : 3 ≤ (n2 : Int) := by omega
            clear h3
            go_wp2_with fail
            go_ret3
            exact .inl ⟨ra, rb, _, _, HRS.out, rfl, HR1.out, HR2.out, hB5⟩
end Go.Proofs.YtcamncipkofgkaaDoor
/- PlnRefD: The contract of the reference's Cut. -/
namespace Go.Proofs.YtcamncipkofgkaaDoor
open Go.RowKit Go.Shelf Pln

set_option maxRecDepth 100000 in
set_option maxHeartbeats 2000000 in
theorem cutR_w (l : List Pt) (hl : Len l) (i k : Int) (hi : I64 i) (hk : I64 k) (v : Value) (w : World) (hv : PtsAt w v l) :
    Calls Tryd.prog 73 #[v, .int .i64 i, .int .i64 k] w (CutR (cutP l i k) w) := by
  have HW := Lib.hid (validR_w l hl v w hv)
  rcases hb : valB l with _ | _
  · have HR : Hid (cutP l i k = none) := Lib.hid (by unfold cutP; rw [hb]; simp)
    rw [hb] at HW
    clear hb hv
    go_enter Tryd.func73, Tryd.ntmps73
    go_wp2_with fail
    refine HW.out.mono ?_
    rintro e u3 ⟨rfl, hB3⟩
    go_wp2_with fail
    go_ret3
    exact .inr ⟨HR.out, rfl, hB3⟩
  · have vl := (valB_iff l).1 hb
    rw [hb] at HW
    have hv2 := hv
    obtain ⟨⟨a, c, rfl, _, _, _⟩, _⟩ := hv2
    obtain ⟨n, hn⟩ : ∃ n, n = l.length := ⟨_, rfl⟩
    have hnb : (n : Int) ≤ 8 := by have := vl.hi; omega
    obtain ⟨i1, i2⟩ := hi
    obtain ⟨k1, k2⟩ := hk
    rw [← hn] at HW ⊢
    by_cases hbad : i < 0 ∨ k < 0 ∨ (n : Int) ≤ i ∨ (n : Int) ≤ k
    · have HR : Hid (cutP l i k = none) := Lib.hid (by unfold cutP; rw [if_neg (by omega)])
      clear hb hv vl hn
      by_cases h0 : i < 0
      · clear hbad
        go_enter Tryd.func73, Tryd.ntmps73
        go_wp2_with fail
        refine HW.out.mono ?_
        rintro e u3 ⟨rfl, hB3⟩
        go_wp2_with fail
        go_ret3
        exact .inr ⟨HR.out, rfl, hB3⟩
      · have h0' : 0 ≤ i := by omega
        clear h0
        by_cases h1 : (n : Int) ≤ i
        · clear hbad
          go_enter Tryd.func73, Tryd.ntmps73
          go_wp2_with fail
          refine HW.out.mono ?_
          rintro e u3 ⟨rfl, hB3⟩
          go_wp2_with fail
          go_ret3
          exact .inr ⟨HR.out, rfl, hB3⟩
        · have h1' : i < n := by omega
          clear h1
          by_cases h2 : k < 0
          · clear hbad
            go_enter Tryd.func73, Tryd.ntmps73
            go_wp2_with fail
            refine HW.out.mono ?_
            rintro e u3 ⟨rfl, hB3⟩
            go_wp2_with fail
            go_ret3
            exact .inr ⟨HR.out, rfl, hB3⟩
          · have h2' : 0 ≤ k := by omega
            have h3 : (n : Int) ≤ k := by omega
            clear h2 hbad
            go_enter Tryd.func73, Tryd.ntmps73
            go_wp2_with fail
            refine HW.out.mono ?_
            rintro e u3 ⟨rfl, hB3⟩
            go_wp2_with fail
            go_ret3
            exact .inr ⟨HR.out, rfl, hB3⟩
    · have hi0 : 0 ≤ i := by omega
      have hk0 : 0 ≤ k := by omega
      obtain ⟨iN, rfl⟩ : ∃ iN : Nat, i = iN := ⟨i.toNat, by omega⟩
      obtain ⟨kN, rfl⟩ : ∃ kN : Nat, k = kN := ⟨k.toNat, by omega⟩
      have hin : iN < l.length := by omega
      have hkn : kN < l.length := by omega
      have H1 := Lib.hid (fun w1 (hB : Below w.heap.size w w1) => walk_w l (by have := vl.hi; omega) iN kN hin hkn _ w1 (hv.via hB))
      have H2 := Lib.hid (fun w1 (hB : Below w.heap.size w w1) => walk_w l (by have := vl.hi; omega) kN iN hkn hin _ w1 (hv.via hB))
      have HR : Hid (cutP l (iN : Int) (kN : Int) = if min (runP l iN kN).length (runP l kN iN).length < 3 then none else some (runP l iN kN, runP l kN iN)) := Lib.hid (by unfold cutP; rw [if_pos ⟨hb, by omega, by omega⟩]; simp)
      have hl1 : (runP l iN kN).length ≤ 16 := by have := vl.hi; unfold runP; split <;> simp <;> omega
      have hl2 : (runP l kN iN).length ≤ 16 := by have := vl.hi; unfold runP; split <;> simp <;> omega
      generalize runP l iN kN = ra at *
      generalize runP l kN iN = rb at *
      have hinb : (iN : Int) < n := by omega
      have hknb : (kN : Int) < n := by omega
      rw [← hn] at H1 H2
      clear hb hv vl hn hin hkn hbad i1 i2 k1 k2
      go_enter Tryd.func73, Tryd.ntmps73
      go_wp2_with fail
      refine HW.out.mono ?_
      rintro e u3 ⟨rfl, hB3⟩
      go_wp2_with fail
      refine (H1.out _ hB3).mono ?_
      rintro e u4 ⟨r1, rfl, hr1, hB4⟩
      have hB4 := belowStep hB3 hB4
      have HR1 := Lib.hid hr1
      obtain ⟨⟨a1, c1, rfl, _, _, _⟩, _⟩ := hr1
      go_wp2_with fail
      refine (H2.out _ hB4).mono ?_
      rintro e u5 ⟨r2, rfl, hr2, hB5⟩
      have HR1 := Lib.hid (HR1.out.via hB5)
      have hB5 := belowStep hB4 hB5
      have HR2 := Lib.hid hr2
      obtain ⟨⟨a2, c2, rfl, _, _, _⟩, _⟩ := hr2
      obtain ⟨n1, hn1⟩ : ∃ n1, n1 = ra.length := ⟨_, rfl⟩
      obtain ⟨n2, hn2⟩ : ∃ n2, n2 = rb.length := ⟨_, rfl⟩
      rw [← hn1] at HR HR1 ⊢
      rw [← hn2] at HR HR2 ⊢
      clear hn1 hn2
      by_cases h3 : (n1 : Int) < 3
      · have HRN : Hid (cutP l (iN : Int) (kN : Int) = none) := Lib.hid (by rw [HR.out, if_pos (by omega)])
        go_wp2_with fail
        go_ret3
        exact .inr ⟨HRN.out, rfl, hB5⟩
      · have h3' : 3 ≤ (n1 : Int) := by omega
        clear h3
        by_cases h4 : (n2 : Int) < 3
        · have HRN : Hid (cutP l (iN : Int) (kN : Int) = none) := Lib.hid (by rw [HR.out, if_pos (by omega)])
          go_wp2_with fail
          go_ret3
          exact .inr ⟨HRN.out, rfl, hB5⟩
        · have h4' : 3 ≤ (n2 : Int) := by omega
          clear h4
          have HRS : Hid (cutP l (iN : Int) (kN : Int) = some (ra, rb)) := Lib.hid (by rw [HR.out, if_neg (by omega)])
          go_wp2_with fail
          go_ret3
          exact .inl ⟨ra, rb, _, _, HRS.out, rfl, HR1.out, HR2.out, hB5⟩
end Go.Proofs.YtcamncipkofgkaaDoor
/- PlnCutP: Plain mathematics of layer 7: the parts of a valid polygon that is cut are valid. Nothing of the program. -/
namespace Pln

theorem take_vx {l : List Pt} {i j : Nat} (h : j < i) : vx (l.take i) j = vx l j := by
  unfold vx; rw [List.getD_eq_getElem?_getD, List.getD_eq_getElem?_getD, List.getElem?_take_of_lt h]
/-- The first corners of a valid polygon. -/
theorem take_val {l : List Pt} (v : Val l) {k : Nat} (h2 : 2 ≤ k) (hk : k < l.length) : Val (l.take (k + 1)) := by
  have hl : (l.take (k + 1)).length = k + 1 := by rw [List.length_take]; omega
  have := v.hi
  refine ⟨by rw [hl]; omega, by rw [hl]; omega, fun i hi => ?_, fun i hi j hj h1 h3 => ?_⟩
  · rw [hl] at hi; rw [take_vx hi]; exact v.on i (by omega)
  · rw [hl] at hi hj h3
    have e : nx (l.take (k + 1)) i = vx l ((i + 1) % (k + 1)) := by
      unfold nx; rw [hl, take_vx (Nat.mod_lt _ (by omega))]
    rw [e, take_vx hi, take_vx hj]
    rcases Nat.lt_or_ge i k with h | h
    · have e1 : (i + 1) % (k + 1) = i + 1 := Nat.mod_eq_of_lt (by omega)
      rw [e1] at h3 ⊢
      have e2 : (i + 1) % l.length = i + 1 := Nat.mod_eq_of_lt (by omega)
      have := v.left i (by omega) j (by omega) h1 (by rw [e2]; exact h3)
      unfold nx at this; rw [e2] at this; exact this
    · obtain rfl : i = k := by omega
      rw [Nat.mod_self] at h3 ⊢
      rw [turn_rot']
      rw [← turn_rot]
      rw [turn_rot']
      have := v.ordered (i := 0) (j := j) (by omega) (k := i) (by omega) hk
      first
      | exact this
      | (rw [turn_rot]; exact this)
      | (rw [turn_rot']; exact this)
      | (rw [← turn_rot]; exact this)
theorem run_rot {l : List Pt} {i k : Nat} (hi : i < l.length) (hk : k < l.length) : ∃ d, d < l.length ∧ runP l i k = (rot l i).take (d + 1) := by
  have hd : (l.drop i).length = l.length - i := List.length_drop
  unfold runP rot
  by_cases h : i ≤ k
  · refine ⟨k - i, by omega, ?_⟩
    rw [if_pos h, List.take_append_of_le_length (by rw [hd]; omega), List.drop_take, show k + 1 - i = k - i + 1 by omega]
  · refine ⟨k + l.length - i, by omega, ?_⟩
    rw [if_neg h, List.take_append, List.take_of_length_le (l := l.drop i) (by rw [hd]; omega), hd, List.take_take, show min (k + l.length - i + 1 - (l.length - i)) i = k + 1 by omega]
/-- The parts of a cut. -/
theorem run_val {l : List Pt} (v : Val l) {i k : Nat} (hi : i < l.length) (hk : k < l.length) (h : 3 ≤ (runP l i k).length) : Val (runP l i k) := by
  obtain ⟨d, hd, e⟩ := run_rot hi hk
  have hr : (rot l i).length = l.length := rot_len (by omega)
  rw [e, List.length_take, hr] at h
  rw [e]
  exact take_val (rot_val v (by omega)) (by omega) (by rw [hr]; exact hd)
theorem cut_val {l a b : List Pt} {i k : Int} (h : cutP l i k = some (a, b)) : Val a ∧ Val b := by
  unfold cutP at h
  split at h
  · rename_i hc
    obtain ⟨h1, h2, h3⟩ := hc
    split at h
    · cases h
    · rename_i hm
      cases h
      have v := (valB_iff l).1 h1
      exact ⟨run_val v (by omega) (by omega) (by omega), run_val v (by omega) (by omega) (by omega)⟩
  · cases h
end Pln
/- PlnPair: The contract of the reference's Pair: two valid polygons. -/
namespace Go.Proofs.YtcamncipkofgkaaDoor
open Go.RowKit Go.Shelf Pln

/-- Two valid polygons. -/
def PairR (w : World) (e : Ending) (w' : World) : Prop := ∃ a b va vb, e = .returned (.tuple #[va, vb]) ∧ Val a ∧ Val b ∧ PtsAt w' va a ∧ PtsAt w' vb b ∧ Below w.heap.size w w'
theorem made40 (x : List Pt) : Val (madeP x 0 40) := madeP_val (by omega) (by omega) (by omega) x
set_option maxRecDepth 100000 in
set_option maxHeartbeats 200000 in
theorem pair0_w (x y : List Pt) (hx : (x.length : Int) ≤ 9223372036854775807) (hy : (y.length : Int) ≤ 9223372036854775807) (how : Int) (hh : I64 how) (v1 v2 : Value) (w : World) (h1 : PtsAt w v1 x) (h2 : PtsAt w v2 y) (hk : pkN how 3 = 0) :
    Calls Tryd.prog 43 #[v1, v2, .int .i64 how] w (PairR w) := by
  have HK := Lib.hid (fun w1 => pickR_w how 3 hh (by omega) (by omega) w1)
  have HM1 := Lib.hid (fun w1 (hB : Below w.heap.size w w1) => made_w x hx 0 40 (by omega) (by omega) (by omega) v1 w1 (h1.via hB))
  have HM2 := Lib.hid (fun w1 (hB : Below w.heap.size w w1) => made_w y hy 0 40 (by omega) (by omega) (by omega) v2 w1 (h2.via hB))
  have HH := Lib.hid hh
  rw [hk] at HK
  have HV1 := Lib.hid (made40 x)
  have HV2 := Lib.hid (made40 y)
  obtain ⟨⟨a1, c1, rfl, _, _, _⟩, _⟩ := h1
  obtain ⟨⟨a2, c2, rfl, _, _, _⟩, _⟩ := h2
  clear hk hx hy hh
  generalize x.length = xn at *
  generalize y.length = yn at *
  go_enter Tryd.func43, Tryd.ntmps43
  go_wp2_with fail
  refine (HK.out _).mono ?_
  rintro e w1 ⟨rfl, rfl⟩
  go_wp2_with fail
  refine (HM1.out _ (Below.refl _ _)).mono ?_
  rintro e w2 ⟨r1, rfl, hr1, hB2⟩
  have HR1 := Lib.hid hr1
  go_wp2_with fail
  refine (HM2.out _ hB2).mono ?_
  rintro e w3 ⟨r2, rfl, hr2, hB3⟩
  have HR1 := Lib.hid (HR1.out.via hB3)
  have HR2 := Lib.hid hr2
  have HB3 := Lib.hid (belowStep hB2 hB3)
  clear hr1 hr2 hB2 hB3
  go_wp2_with fail
  go_ret2
  exact ⟨_, _, _, _, rfl, HV1.out, HV2.out, HR1.out, HR2.out, HB3.out⟩
theorem w64 {x : Int} (h : I64 x) : wrap64 x = x := by obtain ⟨h1, h2⟩ := h; unfold wrap64; omega
theorem tdiv_i64 {p m : Int} (h : I64 p) (hm : 0 < m) : I64 (p.tdiv m) := by
  obtain ⟨h1, h2⟩ := h
  rcases Int.le_total 0 p with h | h
  · have a := Int.tdiv_nonneg h (Int.le_of_lt hm)
    have b : p.tdiv m ≤ p := Int.tdiv_le_self m h
    exact ⟨by omega, by omega⟩
  · obtain ⟨q, rfl⟩ : ∃ q, p = -q := ⟨-p, by omega⟩
    have a := Int.tdiv_nonneg (by omega : 0 ≤ q) (Int.le_of_lt hm)
    have b : q.tdiv m ≤ q := Int.tdiv_le_self m (by omega)
    rw [Int.neg_tdiv]; exact ⟨by omega, by omega⟩
set_option maxRecDepth 100000 in
set_option maxHeartbeats 200000 in
theorem pair2_w (x y : List Pt) (hx : (x.length : Int) ≤ 9223372036854775807) (hy : (y.length : Int) ≤ 9223372036854775807) (how : Int) (hh : I64 how) (v1 v2 : Value) (w : World) (h1 : PtsAt w v1 x) (h2 : PtsAt w v2 y) (hk : pkN how 3 = 2) :
    Calls Tryd.prog 43 #[v1, v2, .int .i64 how] w (PairR w) := by
  have HK := Lib.hid (fun w1 => pickR_w how 3 hh (by omega) (by omega) w1)
  have HM1 := Lib.hid (fun w1 (hB : Below w.heap.size w w1) => made_w x hx 0 40 (by omega) (by omega) (by omega) v1 w1 (h1.via hB))
  have HM2 := Lib.hid (fun w1 (hB : Below w.heap.size w w1) => made_w y hy 0 40 (by omega) (by omega) (by omega) v2 w1 (h2.via hB))
  have HP := Lib.hid (fun (n : Int) (hn : 0 < n) (hn2 : n ≤ 1000) w1 => pickR_w (how.tdiv 3) n (tdiv_i64 hh (by omega)) hn hn2 w1)
  have HH := Lib.hid hh
  rw [hk] at HK
  have HV1 := Lib.hid (made40 x)
  have HV2 := Lib.hid (made40 y)
  obtain ⟨⟨a1, c1, rfl, _, _, _⟩, _⟩ := h1
  obtain ⟨⟨a2, c2, rfl, _, _, _⟩, _⟩ := h2
  clear hk hx hy hh
  generalize x.length = xn at *
  generalize y.length = yn at *
  generalize madeP x 0 40 = l at *
  go_enter Tryd.func43, Tryd.ntmps43
  go_wp2_with fail
  refine (HK.out _).mono ?_
  rintro e w1 ⟨rfl, rfl⟩
  go_wp2_with fail
  refine (HM1.out _ (Below.refl _ _)).mono ?_
  rintro e w2 ⟨r1, rfl, hr1, hB2⟩
  have HR1 := Lib.hid hr1
  have HB2 := Lib.hid hB2
  clear hB2
  obtain ⟨⟨a3, c3, rfl, _, _, _⟩, _⟩ := hr1
  obtain ⟨n, hn⟩ : ∃ n, n = l.length := ⟨_, rfl⟩
  have hn3 : 3 ≤ n := by have := HV1.out.lo; omega
  have hn8 : n ≤ 8 := by have := HV1.out.hi; omega
  have hp := pkN_in (c := how.tdiv 3) (n := n) (by omega)
  have HPN := Lib.hid (HP.out n (by omega) (by omega))
  rw [← hn] at HR1 ⊢
  have HNN := Lib.hid hn
  clear hn
  generalize pkN (how.tdiv 3) n = k at *
  obtain ⟨kN, rfl⟩ : ∃ kN : Nat, k = kN := ⟨k.toNat, by omega⟩
  have hkn : kN < n := by omega
  have hm : (kN + 2) % n < n := Nat.mod_lt _ (by omega)
  have hrem : ((kN : Int) + 2).tmod n = (((kN + 2) % n : Nat) : Int) := by rw [Int.tmod_eq_emod_of_nonneg (by omega)]; simp
  have hw1 : IntKind.i64.wrap ((kN : Int) + 2) = (kN : Int) + 2 := IntWalk.i64_in _ (by omega)
  have hn0 : ¬ n = 0 := by omega
  have hM0 := Int.emod_nonneg ((kN : Int) + 2) (by omega : (n : Int) ≠ 0)
  have hM1 := Int.emod_lt_of_pos ((kN : Int) + 2) (by omega : (0 : Int) < n)
  have hq3 : wrap64 (how.tdiv 3) = how.tdiv 3 := w64 (tdiv_i64 HH.out (by omega))
  have HC := Lib.hid (fun w1 (hB : Below w2.heap.size w2 w1) => cutR_w l (by unfold Len; rw [← HNN.out]; omega) kN (((kN : Int) + 2) % (n : Int)) ⟨by omega, by omega⟩ ⟨by omega, by omega⟩ _ w1 (HR1.out.via hB))
  go_wp2_with fail
  rw [hq3]
  refine (HPN.out _).mono ?_
  rintro e w3 ⟨rfl, rfl⟩
  go_wp2_with fail
  refine (HC.out _ (Below.refl _ _)).mono ?_
  intro e w3 hc
  rcases hc with ⟨ra, rb, r, s, hcut, rfl, hra, hrb, hB3⟩ | ⟨_, rfl, hB3⟩
  · have hva := cut_val hcut
    have HRA := Lib.hid hra
    have HRB := Lib.hid hrb
    have HVA := Lib.hid hva
    have HB3 := Lib.hid (belowStep HB2.out hB3)
    clear hcut hra hrb hva hB3
    go_wp2_with fail
    go_ret2
    exact ⟨_, _, _, _, rfl, HVA.out.1, HVA.out.2, HRA.out, HRB.out, HB3.out⟩
  · have HR1 := Lib.hid (HR1.out.via hB3)
    have HB3 := Lib.hid (belowStep HB2.out hB3)
    clear hB3
    go_wp2_with fail
    refine (HM2.out _ HB3.out).mono ?_
    rintro e w4 ⟨r2, rfl, hr2, hB4⟩
    have HR1 := Lib.hid (HR1.out.via hB4)
    have HR2 := Lib.hid hr2
    have HB4 := Lib.hid (belowStep HB3.out hB4)
    clear hr2 hB4
    go_wp2_with fail
    go_ret2
    exact ⟨_, _, _, _, rfl, HV1.out, HV2.out, HR1.out, HR2.out, HB4.out⟩
/-- At most six rows of a list, and two more. -/
theorem info_in : (Tryd.prog.info? 49).map (fun i => (i.zero, i.size, i.bytes)) = some (some (.agg #[.int .i64 0, .int .i64 0]), 2, 16) := by kernel_rfl
theorem owns_at2 {w : World} {base : Nat} {e : TypeId} {v : Value} {l : List Pt} (h : w.ownsRow base e 2 v l.length (cellsP l)) (hok : PtsOk l) : PtsAt w v l := by
  refine ⟨?_, hok⟩
  rcases h.2 with ⟨rfl, h0⟩ | ⟨g, cap, cur, rfl, _, _, hn, hc, _, _⟩
  · exact ⟨none, 0, by rw [h0], by omega, by omega, .inl (List.length_eq_zero_iff.1 h0)⟩
  · have hc' : (cap : Int) ≤ 9223372036854775807 := by unfold maxLen at hc; omega
    refine ⟨some ⟨g, 0, none⟩, cap, rfl, hn, hc', .inr ⟨g, 0, rfl, fun j hj => ?_⟩⟩
    have := cellsP_get l j hj
    exact ⟨by rw [Nat.zero_add]; exact (h.cellAt (j * 2) (by omega)).trans this.1, by rw [Nat.zero_add]; exact (h.cellAt (j * 2 + 1) (by omega)).trans this.2⟩
theorem own_grown {W W' : World} {base e s n : Nat} {v : Value} {row : Option Nat} {xs : List Value} (h : W.ownsRow base e s v n xs) (hg : W.grownBy W' row) (hr : ∀ q, row = some q → ∀ r, v.ownBlock = some r → r ≠ q) : W'.ownsRow base e s v n xs := by
  refine ⟨h.1, ?_⟩
  rcases h.2 with h2 | ⟨g, cap, cur, rfl, h2, h3, h4⟩
  · exact .inl h2
  · exact .inr ⟨g, cap, cur, rfl, h2, (hg.block g (Array.getElem?_eq_some_iff.1 h3).1 (fun e => hr g e.symm g rfl rfl)).trans h3, h4⟩
theorem two_ok {a b c d : Int} (h1 : 0 ≤ a ∧ a ≤ 100 ∧ 0 ≤ c ∧ c ≤ 100) (h2 : 0 ≤ b ∧ b ≤ 100 ∧ 0 ≤ d ∧ d ≤ 100) : PtsOk [(a, b), (c, d)] := fun r hr => by
  simp at hr
  rcases hr with rfl | rfl
  · exact ⟨⟨by dsimp only; omega, by dsimp only; omega⟩, by dsimp only; omega, by dsimp only; omega⟩
  · exact ⟨⟨by dsimp only; omega, by dsimp only; omega⟩, by dsimp only; omega, by dsimp only; omega⟩
theorem take_next {x : List Pt} {k : Nat} (h : k < x.length) : x.take (k + 1) = x.take k ++ [vx x k] := by
  rw [List.take_add_one, vx_eq h]; simp [List.getElem?_eq_getElem h]
theorem ok_take {x : List Pt} (h : PtsOk x) (k : Nat) : PtsOk (x.take k) := fun r hr => h r (List.mem_of_mem_take hr)
set_option maxRecDepth 100000 in
set_option maxHeartbeats 400000 in
theorem pair1_w (x y : List Pt) (hx : (x.length : Int) ≤ 9223372036854775807) (hy : (y.length : Int) ≤ 9223372036854775807) (how : Int) (hh : I64 how) (v1 v2 : Value) (w : World) (h1 : PtsAt w v1 x) (h2 : PtsAt w v2 y) (hk : pkN how 3 = 1) :
    Calls Tryd.prog 43 #[v1, v2, .int .i64 how] w (PairR w) := by
  have HK := Lib.hid (fun w1 => pickR_w how 3 hh (by omega) (by omega) w1)
  rw [hk] at HK
  have HX := Lib.hid h1
  have HY := Lib.hid h2
  have HOX := Lib.hid h1.ok
  have HOY := Lib.hid h2.ok
  have q3 : wrap64 (how.tdiv 3) = how.tdiv 3 := w64 (tdiv_i64 hh (by omega))
  have q90 : wrap64 (how.tdiv 90) = how.tdiv 90 := w64 (tdiv_i64 hh (by omega))
  have q900 : wrap64 (how.tdiv 900) = how.tdiv 900 := w64 (tdiv_i64 hh (by omega))
  have q7 : wrap64 (how.tdiv 7) = how.tdiv 7 := w64 (tdiv_i64 hh (by omega))
  have HP3 := Lib.hid (fun w1 => pickR_w (how.tdiv 3) 30 (tdiv_i64 hh (by omega)) (by omega) (by omega) w1)
  have HP90 := Lib.hid (fun w1 => pickR_w (how.tdiv 90) 10 (tdiv_i64 hh (by omega)) (by omega) (by omega) w1)
  have HP900 := Lib.hid (fun w1 => pickR_w (how.tdiv 900) 40 (tdiv_i64 hh (by omega)) (by omega) (by omega) w1)
  have HP7 := Lib.hid (fun w1 => pickR_w (how.tdiv 7) 40 (tdiv_i64 hh (by omega)) (by omega) (by omega) w1)
  have b3 := pkN_in (c := how.tdiv 3) (n := 30) (by omega)
  have b90 := pkN_in (c := how.tdiv 90) (n := 10) (by omega)
  have b900 := pkN_in (c := how.tdiv 900) (n := 40) (by omega)
  have b7 := pkN_in (c := how.tdiv 7) (n := 40) (by omega)
  generalize pkN (how.tdiv 3) 30 = p3 at *
  generalize pkN (how.tdiv 90) 10 = p90 at *
  generalize pkN (how.tdiv 900) 40 = p900 at *
  generalize pkN (how.tdiv 7) 40 = p7 at *
  obtain ⟨b3a, b3b⟩ := b3
  obtain ⟨b90a, b90b⟩ := b90
  obtain ⟨b900a, b900b⟩ := b900
  obtain ⟨b7a, b7b⟩ := b7
  obtain ⟨⟨a1, c1, rfl, _, _, _⟩, _⟩ := h1
  obtain ⟨⟨a2, c2, rfl, _, _, _⟩, _⟩ := h2
  obtain ⟨i0, hi, hz0, hz1, hz2⟩ := info_parts info_in
  have HI := Lib.hid hi
  have HZ0 := Lib.hid hz0
  have HZ1 := Lib.hid hz1
  have HZ2 := Lib.hid hz2
  clear hi hz0 hz1 hz2 hk hh
  obtain ⟨n, hn⟩ : ∃ n, n = x.length := ⟨_, rfl⟩
  obtain ⟨m, hm⟩ : ∃ m, m = y.length := ⟨_, rfl⟩
  have hnb : (n : Int) ≤ 9223372036854775807 := by omega
  have hmb : (m : Int) ≤ 9223372036854775807 := by omega
  rw [← hn] at HX ⊢
  rw [← hm] at HY ⊢
  have HN := Lib.hid hn
  have HMM := Lib.hid hm
  clear hn hm hx hy
  go_enter Tryd.func43, Tryd.ntmps43
  go_wp2_with fail
  refine (HK.out _).mono ?_
  rintro e w1 ⟨rfl, rfl⟩
  go_wp2_with fail
  go_loopw [8, 10] (fun u i wr => ∃ k : Nat, k ≤ n ∧ k ≤ 6 ∧ i = .int .i64 k ∧ wr.ownsRow w.heap.size 49 2 u k (cellsP (x.take k)) ∧ Below w.heap.size w wr) (fun _ i _ => n - (intOf i).toNat)
  case atStart => exact ⟨0, by omega, by omega, rfl, ⟨rfl, .inl ⟨rfl, rfl⟩⟩, Below.refl _ _⟩
  case round =>
    obtain ⟨k, hk, hk6, rfl, hown, hB⟩ := hrel
    have HB := Lib.hid hB
    have HO := Lib.hid hown
    clear hown hB
    go_upto_region 8 with fail
    go_cut [35] (fun sx wx => sx = .bool (decide (k < n ∧ k < 6)) ∧ wx = wr)
    case first =>
      by_cases hlt : k < n
      · have hlt' : (k : Int) < n := by omega
        by_cases hlt6 : k < 6
        · have hlt6' : (k : Int) < 6 := by omega
          go_wp2_with fail
          go_meet
          case rel => exact ⟨by rw [decide_eq_true ⟨hlt, hlt6⟩], rfl⟩
        · have hlt6' : (6 : Int) ≤ k := by omega
          go_wp2_with fail
          go_meet
          case rel => exact ⟨by rw [decide_eq_false (fun (h : k < n ∧ k < 6) => hlt6 h.2)]; first | rfl | rw [decide_eq_false (by omega : ¬ ((k : Int) < 6))], rfl⟩
      · have hlt' : (n : Int) ≤ k := by omega
        go_wp2_with fail
        go_meet
        case rel => exact ⟨by rw [decide_eq_false (fun (h : k < n ∧ k < 6) => hlt h.1)], rfl⟩
    case rest =>
      obtain ⟨rfl, rfl⟩ := hcut
      by_cases hlt : k < n ∧ k < 6
      · have hd : decide (k < n ∧ k < 6) = true := decide_eq_true hlt
        rw [hd]
        have hkx : k < x.length := by rw [← HN.out]; exact hlt.1
        obtain ⟨g, o, cc, he, _, _, hcells⟩ := at_some (HX.out.via HB.out) (by omega)
        rw [← HN.out] at he
        cases he
        obtain ⟨c0, c1⟩ := hcells k hkx
        have HTN := Lib.hid (take_next hkx)
        have hkn : (k : Int) < n := by omega
        have hk7 : (k : Int) < 6 := by omega
        clear hcells hkx hlt hd
        generalize vx x k = p at *
        obtain ⟨x0, x1⟩ := p
        dsimp only at c0 c1
        have HO6 := Lib.hid (own_via HO.out (alloc_below wc (.cells #[.int .i64 x0, .int .i64 x1] 49)))
        have HNW := Lib.hid (news_in (w := wc.alloc (.cells #[.int .i64 x0, .int .i64 x1] 49)) (g := wc.heap.size) (o := 0) (l := [(x0, x1)]) (fun j hj => by obtain rfl : j = 0 := (by simp at hj; omega); exact ⟨cell_rowN wc _ _ 0 rfl, cell_rowN wc _ _ 1 rfl⟩))
        have HA := Lib.hid (app_ok (n := k) (m := 1) (by omega))
        have HBZ : Hid (w.heap.size ≤ (wc.alloc (.cells #[.int .i64 x0, .int .i64 x1] 49)).heap.size) := Lib.hid (by have := HB.out.size; simp; omega)
        go_wp2_with (at_builtin; refine wpList_append_own _ rfl _ _ 22 rfl w.heap.size 49 i0 (.agg #[.int .i64 0, .int .i64 0]) 2 16 Tryd.underlying22 HI.out HZ0.out HZ1.out HZ2.out rfl (by decide) _ k (cellsP (x.take k)) rfl HO6.out ⟨wc.heap.size, 0, none⟩ 1 1 (cellsP [(x0, x1)]) rfl rfl HNW.out (cellsP_one _) HA.out.1 HA.out.2 HBZ.out ?_)
        intro v5 w5 hown5 hgrow5 _
        have HB5 := Lib.hid ((belowStep HB.out (alloc_below wc (.cells #[.int .i64 x0, .int .i64 x1] 49))).grown hgrow5 HBZ.out (fun k hk => (own_lt HO6.out k hk).1))
        rw [← cellsP_app, ← HTN.out] at hown5
        have HO5 := Lib.hid hown5
        clear hown5 hgrow5
        go_wp2_with fail
        go_roundw
        case rel => exact ⟨k + 1, by omega, by omega, by go_num, HO5.out, HB5.out⟩
        case measure => simp [intOf]; omega
      · have hd : decide (k < n ∧ k < 6) = false := decide_eq_false hlt
        rw [hd]
        have HLL : Hid ((x.take k).length = k) := Lib.hid (by rw [List.length_take, ← HN.out]; omega)
        clear hlt hd
        go_wp2_with fail
        clear HK
        generalize hwd : wc = wd at *
        clear hwd
        go_loopw [9, 11] (fun u i wr => ∃ j : Nat, j ≤ m ∧ j ≤ 6 ∧ i = .int .i64 j ∧ wr.ownsRow wd.heap.size 49 2 u j (cellsP (y.take j)) ∧ Below wd.heap.size wd wr) (fun _ i _ => m - (intOf i).toNat)
        case atStart => exact ⟨0, by omega, by omega, rfl, ⟨rfl, .inl ⟨rfl, rfl⟩⟩, Below.refl _ _⟩
        case round =>
          obtain ⟨j, hj, hj6, rfl, hown, hB⟩ := hrel
          have HB2 := Lib.hid hB
          have HO2 := Lib.hid hown
          clear hown hB
          go_upto_region 12 with fail
          go_cut [52] (fun sx wx => sx = .bool (decide (j < m ∧ j < 6)) ∧ wx = wr)
          case first =>
            by_cases hlt : j < m
            · have hlt' : (j : Int) < m := by omega
              by_cases hlt6 : j < 6
              · have hlt6' : (j : Int) < 6 := by omega
                go_wp2_with fail
                go_meet
                case rel => exact ⟨by rw [decide_eq_true ⟨hlt, hlt6⟩], rfl⟩
              · have hlt6' : (6 : Int) ≤ j := by omega
                go_wp2_with fail
                go_meet
                case rel => exact ⟨by rw [decide_eq_false (fun (h : j < m ∧ j < 6) => hlt6 h.2)]; first | rfl | rw [decide_eq_false (by omega : ¬ ((j : Int) < 6))], rfl⟩
            · have hlt' : (m : Int) ≤ j := by omega
              go_wp2_with fail
              go_meet
              case rel => exact ⟨by rw [decide_eq_false (fun (h : j < m ∧ j < 6) => hlt h.1)], rfl⟩
          case rest =>
            obtain ⟨rfl, rfl⟩ := hcut
            by_cases hlt : j < m ∧ j < 6
            · have hd : decide (j < m ∧ j < 6) = true := decide_eq_true hlt
              rw [hd]
              have hkx : j < y.length := by rw [← HMM.out]; exact hlt.1
              obtain ⟨g, o, cc, he, _, _, hcells⟩ := at_some (HY.out.via (belowStep HB.out HB2.out)) (by omega)
              rw [← HMM.out] at he
              cases he
              obtain ⟨c0, c1⟩ := hcells j hkx
              have HTN := Lib.hid (take_next hkx)
              have hkn : (j : Int) < m := by omega
              have hk7 : (j : Int) < 6 := by omega
              clear hcells hkx hlt hd
              generalize vx y j = p at *
              obtain ⟨x0, x1⟩ := p
              dsimp only at c0 c1
              have HO6 := Lib.hid (own_via HO2.out (alloc_below wc (.cells #[.int .i64 x0, .int .i64 x1] 49)))
              have HNW := Lib.hid (news_in (w := wc.alloc (.cells #[.int .i64 x0, .int .i64 x1] 49)) (g := wc.heap.size) (o := 0) (l := [(x0, x1)]) (fun j hj => by obtain rfl : j = 0 := (by simp at hj; omega); exact ⟨cell_rowN wc _ _ 0 rfl, cell_rowN wc _ _ 1 rfl⟩))
              have HA := Lib.hid (app_ok (n := j) (m := 1) (by omega))
              have HBZ : Hid (wd.heap.size ≤ (wc.alloc (.cells #[.int .i64 x0, .int .i64 x1] 49)).heap.size) := Lib.hid (by have := HB2.out.size; simp; omega)
              go_wp2_with (at_builtin; refine wpList_append_own _ rfl _ _ 22 rfl wd.heap.size 49 i0 (.agg #[.int .i64 0, .int .i64 0]) 2 16 Tryd.underlying22 HI.out HZ0.out HZ1.out HZ2.out rfl (by decide) _ j (cellsP (y.take j)) rfl HO6.out ⟨wc.heap.size, 0, none⟩ 1 1 (cellsP [(x0, x1)]) rfl rfl HNW.out (cellsP_one _) HA.out.1 HA.out.2 HBZ.out ?_)
              intro v5 w5 hown5 hgrow5 _
              have HB5 := Lib.hid ((belowStep HB2.out (alloc_below wc (.cells #[.int .i64 x0, .int .i64 x1] 49))).grown hgrow5 HBZ.out (fun k hk => (own_lt HO6.out k hk).1))
              rw [← cellsP_app, ← HTN.out] at hown5
              have HO5 := Lib.hid hown5
              clear hown5 hgrow5
              go_wp2_with fail
              go_roundw
              case rel => exact ⟨j + 1, by omega, by omega, by go_num, HO5.out, HB5.out⟩
              case measure => simp [intOf]; omega
            · have hd : decide (j < m ∧ j < 6) = false := decide_eq_false hlt
              rw [hd]
              have HLM : Hid ((y.take j).length = j) := Lib.hid (by rw [List.length_take, ← HMM.out]; omega)
              clear hlt hd
              have HB3 := Lib.hid (belowStep HB.out HB2.out)
              have hu := HO.out
              have HO := Lib.hid (own_via HO.out HB2.out)
              have HNE : Hid (∀ q, u8.ownBlock = some q → q < wd.heap.size) := Lib.hid (fun q hq => (own_lt hu q hq).2)
              clear hu
              go_wp2_with fail
              rw [q3]
              refine (HP3.out _).mono ?_
              rintro e w3 ⟨rfl, rfl⟩
              have q1 : IntKind.i64.wrap (p3 + 1) = p3 + 1 := IntWalk.i64_in _ (by omega)
              have q2 : IntKind.i64.wrap (p3 + 1 + p90) = p3 + 1 + p90 := IntWalk.i64_in _ (by omega)
              go_wp2_with fail
              refine (HP90.out _).mono ?_
              rintro e w4 ⟨rfl, rfl⟩
              have HO6 := Lib.hid (own_via HO.out (alloc_below wc (.cells #[.int .i64 20, .int .i64 p3, .int .i64 20, .int .i64 (p3 + 1 + p90)] 49)))
              have HNW := Lib.hid (news_in (w := wc.alloc (.cells #[.int .i64 20, .int .i64 p3, .int .i64 20, .int .i64 (p3 + 1 + p90)] 49)) (g := wc.heap.size) (o := 0) (l := [(20, p3), (20, p3 + 1 + p90)]) (fun j hj => by
                have hj2 : j = 0 ∨ j = 1 := (by simp at hj; omega)
                rcases hj2 with rfl | rfl
                · exact ⟨cell_rowN wc _ _ 0 rfl, cell_rowN wc _ _ 1 rfl⟩
                · exact ⟨cell_rowN wc _ _ 2 rfl, cell_rowN wc _ _ 3 rfl⟩))
              have HA := Lib.hid (app_ok (n := k) (m := 2) (by omega))
              have HBZ : Hid (w.heap.size ≤ (wc.alloc (.cells #[.int .i64 20, .int .i64 p3, .int .i64 20, .int .i64 (p3 + 1 + p90)] 49)).heap.size) := Lib.hid (by have := HB3.out.size; simp; omega)
              go_wp2_with (at_builtin; go_loud (refine wpList_append_own_at _ rfl _ _ 22 rfl w.heap.size 49 i0 (.agg #[.int .i64 0, .int .i64 0]) 2 16 Tryd.underlying22 HI.out HZ0.out HZ1.out HZ2.out rfl (by decide) _ k (cellsP (x.take k)) rfl HO6.out ⟨wc.heap.size, 0, none⟩ 2 2 (cellsP [(20, p3), (20, p3 + 1 + p90)]) rfl rfl HNW.out (cellsP_one _) HA.out.1 HA.out.2 HBZ.out ?_))
              intro v5 w5 hown5 hgrow5 _ hat5
              have HB5 := Lib.hid ((belowStep HB3.out (alloc_below wc (.cells #[.int .i64 20, .int .i64 p3, .int .i64 20, .int .i64 (p3 + 1 + p90)] 49))).grown hgrow5 HBZ.out (fun k hk => (own_lt HO6.out k hk).1))
              have HO25 := Lib.hid (own_grown (own_via HO2.out (alloc_below wc (.cells #[.int .i64 20, .int .i64 p3, .int .i64 20, .int .i64 (p3 + 1 + p90)] 49))) hgrow5 (fun q hq r hr => by have := HNE.out q hq; have := (own_lt HO2.out r hr).1; omega))
              have HZ5 : Hid (wd.heap.size ≤ w5.heap.size) := Lib.hid (by have := hgrow5.size; have := HB2.out.size; simp at *; omega)
              rw [← cellsP_app] at hown5
              have HAT : Hid (∀ q, u9.ownBlock = some q → ∀ r, v5.ownBlock = some r → r ≠ q) := Lib.hid (fun q hq r hr => by
                have h1 := own_lt HO2.out q hq
                rcases hat5 with h | h
                · rw [h] at hr; have := HNE.out r hr; omega
                · rw [h] at hr; cases hr; simp; omega)
              have HO5 := Lib.hid hown5
              have HLN : Hid ((x.take k ++ [(20, p3), (20, p3 + 1 + p90)]).length = k + 2) := Lib.hid (by rw [List.length_append, HLL.out]; rfl)
              have HOK1 : Hid (PtsOk (x.take k ++ [(20, p3), (20, p3 + 1 + p90)])) := Lib.hid (both_ok (ok_take HOX.out k) (two_ok (by omega) (by omega)))
              clear hown5 hgrow5 hat5
              generalize x.take k ++ [(20, p3), (20, p3 + 1 + p90)] = l1 at *
              clear HO6 HNW HA HBZ HO HNE HLL
              go_wp2_with fail
              refine (HP900.out _).mono ?_
              rintro e w6 ⟨rfl, rfl⟩
              go_wp2_with fail
              refine (HP7.out _).mono ?_
              rintro e w6 ⟨rfl, rfl⟩
              have HO6 := Lib.hid (own_via HO25.out (alloc_below w5 (.cells #[.int .i64 0, .int .i64 p900, .int .i64 0, .int .i64 p7] 49)))
              have HNW := Lib.hid (news_in (w := w5.alloc (.cells #[.int .i64 0, .int .i64 p900, .int .i64 0, .int .i64 p7] 49)) (g := w5.heap.size) (o := 0) (l := [(0, p900), (0, p7)]) (fun j hj => by
                have hj2 : j = 0 ∨ j = 1 := (by simp at hj; omega)
                rcases hj2 with rfl | rfl
                · exact ⟨cell_rowN w5 _ _ 0 rfl, cell_rowN w5 _ _ 1 rfl⟩
                · exact ⟨cell_rowN w5 _ _ 2 rfl, cell_rowN w5 _ _ 3 rfl⟩))
              have HA := Lib.hid (app_ok (n := j) (m := 2) (by omega))
              have HBZ : Hid (wd.heap.size ≤ (w5.alloc (.cells #[.int .i64 0, .int .i64 p900, .int .i64 0, .int .i64 p7] 49)).heap.size) := Lib.hid (by have := HZ5.out; simp; omega)
              go_wp2_with (at_builtin; go_loud (refine wpList_append_own_at _ rfl _ _ 22 rfl wd.heap.size 49 i0 (.agg #[.int .i64 0, .int .i64 0]) 2 16 Tryd.underlying22 HI.out HZ0.out HZ1.out HZ2.out rfl (by decide) _ j (cellsP (y.take j)) rfl HO6.out ⟨w5.heap.size, 0, none⟩ 2 2 (cellsP [(0, p900), (0, p7)]) rfl rfl HNW.out (cellsP_one _) HA.out.1 HA.out.2 HBZ.out ?_))
              intro v7 w7 hown5 hgrow5 _ hat5
              have HB7 := Lib.hid ((belowStep HB5.out (alloc_below w5 (.cells #[.int .i64 0, .int .i64 p900, .int .i64 0, .int .i64 p7] 49))).grown hgrow5 (by have := HB5.out.size; simp; omega) (fun q hq => by have := (own_lt HO6.out q hq).1; have := HB.out.size; omega))
              have HO7 := Lib.hid (own_grown (own_via HO5.out (alloc_below w5 (.cells #[.int .i64 0, .int .i64 p900, .int .i64 0, .int .i64 p7] 49))) hgrow5 (fun q hq r hr => HAT.out q hq r hr))
              rw [← cellsP_app] at hown5
              have HP1 : Hid (PtsAt w7 v5 l1) := Lib.hid (owns_at2 (by rw [HLN.out]; exact HO7.out) HOK1.out)
              have HP2 : Hid (PtsAt w7 v7 (y.take j ++ [(0, p900), (0, p7)])) := Lib.hid (owns_at2 (by rw [List.length_append, HLM.out]; exact hown5) (both_ok (ok_take HOY.out j) (two_ok (by omega) (by omega))))
              have HLY : Hid ((y.take j ++ [(0, p900), (0, p7)]).length = j + 2) := Lib.hid (by rw [List.length_append, HLM.out]; rfl)
              clear hown5 hgrow5 hat5
              generalize y.take j ++ [(0, p900), (0, p7)] = l2 at *
              have HM1 := Lib.hid (fun w1 (hB : Below w7.heap.size w7 w1) => made_w l1 (by rw [HLN.out]; omega) 0 20 (by omega) (by omega) (by omega) v5 w1 (HP1.out.via hB))
              have HM2 := Lib.hid (fun w1 (hB : Below w7.heap.size w7 w1) => made_w l2 (by rw [HLY.out]; omega) 20 40 (by omega) (by omega) (by omega) v7 w1 (HP2.out.via hB))
              have HV1 := Lib.hid (madeP_val (low := 0) (high := 20) (by omega) (by omega) (by omega) l1)
              have HV2 := Lib.hid (madeP_val (low := 20) (high := 40) (by omega) (by omega) (by omega) l2)
              clear HO6 HNW HA HBZ HO5 HO25 HAT HO2 HO7
              go_wp2_with fail
              refine (HM1.out _ (Below.refl _ _)).mono ?_
              rintro e w8 ⟨r1, rfl, hr1, hB8⟩
              have HR1 := Lib.hid hr1
              go_wp2_with fail
              refine (HM2.out _ hB8).mono ?_
              rintro e w9 ⟨r2, rfl, hr2, hB9⟩
              have HR1 := Lib.hid (HR1.out.via hB9)
              have HR2 := Lib.hid hr2
              have HB9 := Lib.hid (belowStep HB7.out (belowStep hB8 hB9))
              clear hr1 hr2 hB8 hB9
              go_wp2_with fail
              go_ret2
              exact ⟨_, _, _, _, rfl, HV1.out, HV2.out, HR1.out, HR2.out, HB9.out⟩
/-- Pair: two valid polygons. -/
theorem pair_w (x y : List Pt) (hx : (x.length : Int) ≤ 9223372036854775807) (hy : (y.length : Int) ≤ 9223372036854775807) (how : Int) (hh : I64 how) (v1 v2 : Value) (w : World) (h1 : PtsAt w v1 x) (h2 : PtsAt w v2 y) :
    Calls Tryd.prog 43 #[v1, v2, .int .i64 how] w (PairR w) := by
  have h := pkN_in (c := how) (n := 3) (by omega)
  have : pkN how 3 = 0 ∨ pkN how 3 = 1 ∨ pkN how 3 = 2 := by omega
  rcases this with h | h | h
  · exact pair0_w x y hx hy how hh v1 v2 w h1 h2 h
  · exact pair1_w x y hx hy how hh v1 v2 w h1 h2 h
  · exact pair2_w x y hx hy how hh v1 v2 w h1 h2 h
end Go.Proofs.YtcamncipkofgkaaDoor
/- PlnConvexP: Plain mathematics of layer 7: what PlaneConvex asks. Nothing of the program. -/
namespace Pln

/-- To the left of the first k edges. -/
def lefB (l : List Pt) (p : Pt) : Nat → Bool
  | 0 => true
  | k + 1 => lefB l p k && decide (0 < turn (vx l k) (nx l k) p)
theorem lefB_iff (l : List Pt) (p : Pt) : ∀ k, lefB l p k = true ↔ ∀ i, i < k → 0 < turn (vx l i) (nx l i) p
  | 0 => ⟨fun _ i hi => by omega, fun _ => rfl⟩
  | k + 1 => by
    rw [lefB, Bool.and_eq_true, lefB_iff l p k, decide_eq_true_eq]
    refine ⟨fun ⟨h1, h2⟩ i hi => ?_, fun h => ⟨fun i hi => h i (by omega), h k (by omega)⟩⟩
    by_cases e : i = k
    · rw [e]; exact h2
    · exact h1 i (by omega)
theorem insP_eq {l : List Pt} {p : Pt} (v : Val l) (h : On p) : insP l p = posP l p := by
  unfold insP; rw [if_pos ⟨(valB_iff l).2 v, (onB_iff p).2 h⟩]
theorem insP_ge {l : List Pt} {p : Pt} (h : 0 ≤ insP l p) : 0 ≤ posP l p ∧ On p := by
  unfold insP at h
  split at h
  · rename_i hc; exact ⟨h, (onB_iff p).1 hc.2⟩
  · omega
theorem insP_cases (l : List Pt) (p : Pt) : insP l p = 1 ∨ insP l p = 0 ∨ insP l p = -1 := by
  unfold insP; split
  · exact pos_cases l p
  · exact .inr (.inr rfl)
theorem left_in {l : List Pt} {p : Pt} (v : Val l) (h : On p) : lefB l p l.length = decide (insP l p = 1) := by
  rw [insP_eq v h]
  rcases e : lefB l p l.length with _ | _
  · refine (decide_eq_false (fun h2 => ?_)).symm
    rw [pos_one] at h2
    rw [(lefB_iff l p l.length).2 h2] at e
    exact Bool.noConfusion e
  · exact (decide_eq_true (pos_one.2 ((lefB_iff l p l.length).1 e))).symm
/-- Halfway between two places that are not outside. -/
theorem half_ok {l : List Pt} {p1 p2 q1 q2 : Int} (v : Val l) (hp : On (p1, p2)) (hq : On (q1, q2)) (h1 : (p1 + q1) % 2 = 0) (h2 : (p2 + q2) % 2 = 0) (a : 0 ≤ insP l (p1, p2)) (b : 0 ≤ insP l (q1, q2)) :
    0 ≤ insP l ((p1 + q1) / 2, (p2 + q2) / 2) ∧ max (insP l (p1, p2)) (insP l (q1, q2)) ≤ insP l ((p1 + q1) / 2, (p2 + q2) / 2) := by
  have hp1 := hp.x0; have hp2 := hp.x1; have hp3 := hp.y0; have hp4 := hp.y1
  have hq1 := hq.x0; have hq2 := hq.x1; have hq3 := hq.y0; have hq4 := hq.y1
  dsimp only at hp1 hp2 hp3 hp4 hq1 hq2 hq3 hq4
  rw [insP_eq v hp] at a ⊢
  rw [insP_eq v hq] at b ⊢
  rw [insP_eq v ⟨by dsimp only; omega, by dsimp only; omega, by dsimp only; omega, by dsimp only; omega⟩]
  exact half_in (by omega) (by omega) a b
/-- The corners of the cell so far. -/
def whB (l : List Pt) (p1 p2 : Int) : Nat → Bool
  | 0 => true
  | k + 1 => whB l p1 p2 k && decide (0 ≤ insP l (p1 + (k : Int) % 2, p2 + (k : Int) / 2))
theorem wh_cell {l : List Pt} {p1 p2 : Int} (v : Val l) (hp : On (p1, p2)) (h : whB l p1 p2 4 = true) : cellP l p1 p2 = 1 := by
  simp only [whB, Bool.and_eq_true, decide_eq_true_eq, Bool.true_and] at h
  obtain ⟨⟨⟨h0, h1⟩, h2⟩, h3⟩ := h
  have e0 : (p1 + ((0 : Nat) : Int) % 2, p2 + ((0 : Nat) : Int) / 2) = (p1, p2) := by simp
  have e1 : (p1 + ((1 : Nat) : Int) % 2, p2 + ((1 : Nat) : Int) / 2) = (p1 + 1, p2) := by
    have a : ((1 : Nat) : Int) % 2 = 1 := by decide
    have b : ((1 : Nat) : Int) / 2 = 0 := by decide
    rw [a, b, Int.add_zero]
  have e2 : (p1 + ((2 : Nat) : Int) % 2, p2 + ((2 : Nat) : Int) / 2) = (p1, p2 + 1) := by
    have a : ((2 : Nat) : Int) % 2 = 0 := by decide
    have b : ((2 : Nat) : Int) / 2 = 1 := by decide
    rw [a, b, Int.add_zero]
  have e3 : (p1 + ((3 : Nat) : Int) % 2, p2 + ((3 : Nat) : Int) / 2) = (p1 + 1, p2 + 1) := by
    have a : ((3 : Nat) : Int) % 2 = 1 := by decide
    have b : ((3 : Nat) : Int) / 2 = 1 := by decide
    rw [a, b]
  rw [e0] at h0; rw [e1] at h1; rw [e2] at h2; rw [e3] at h3
  unfold cellP
  rw [if_pos ⟨(valB_iff l).2 v, (onB_iff _).2 hp⟩]
  exact cell_in v (insP_ge h0).1 (insP_ge h1).1 (insP_ge h2).1 (insP_ge h3).1
end Pln
/- PlnPoly: What the laws on two polygons share. -/
namespace Pln
theorem ins_one {l : List Pt} {p : Pt} (h : insP l p = 1) : ∀ i, i < l.length → 0 < turn (vx l i) (nx l i) p := by
  unfold insP at h
  split at h
  · exact pos_one.1 h
  · omega
theorem dbl_sepB (a b : List Pt) (i : Nat) : sepB (dbl a) (dbl b) i = sepB a b i := by
  rw [Bool.eq_iff_iff, sepB_iff, sepB_iff]
  constructor
  · intro h c hc
    obtain ⟨k, hk, rfl⟩ := mem_vx hc
    have := h (vx (dbl b) k) (vx_mem (by rw [dbl_len]; exact hk))
    rw [dbl_vx, dbl_nx, dbl_vx] at this
    have e : turn (2 * (vx a i).1, 2 * (vx a i).2) (2 * (nx a i).1, 2 * (nx a i).2) (2 * (vx b k).1, 2 * (vx b k).2) = 4 * turn (vx a i) (nx a i) (vx b k) := by unfold turn; grind
    rw [e] at this; omega
  · intro h c hc
    obtain ⟨k, hk, rfl⟩ := mem_vx hc
    rw [dbl_len] at hk
    have := h (vx b k) (vx_mem hk)
    rw [dbl_vx, dbl_nx, dbl_vx]
    have e : turn (2 * (vx a i).1, 2 * (vx a i).2) (2 * (nx a i).1, 2 * (nx a i).2) (2 * (vx b k).1, 2 * (vx b k).2) = 4 * turn (vx a i) (nx a i) (vx b k) := by unfold turn; grind
    rw [e]; omega
/-- A center of a cell in the interior of both. -/
theorem meet_of_center {a b : List Pt} (va : Val a) (vb : Val b) {x y : Int} (ha : posP (dbl a) (2 * x + 1, 2 * y + 1) = 1) (hb : posP (dbl b) (2 * x + 1, 2 * y + 1) = 1) : Meet a b := by
  have K : ∀ {a b : List Pt}, Val b → posP (dbl a) (2 * x + 1, 2 * y + 1) = 1 → posP (dbl b) (2 * x + 1, 2 * y + 1) = 1 → ∀ j, j < a.length → sepB a b j = false := fun {a b} vb ha hb j hj => by
    rw [sepB_no]
    have h1 := pos_one.1 ha j (by rw [dbl_len]; exact hj)
    rw [dbl_turn] at h1
    -- an affine function with four times the value at the center
    have hg : Aff fun q => 2 * turn (vx a j) (nx a j) q := by
      obtain ⟨A, B, C, e⟩ := aff_turn (vx a j) (nx a j)
      exact ⟨2 * A, 2 * B, 2 * C, fun p => by rw [e]; grind⟩
    rcases Classical.em (∃ c ∈ b, 0 < turn (vx a j) (nx a j) c) with h | h
    · exact h
    · exfalso
      have hle : ∀ c ∈ b, turn (vx a j) (nx a j) c ≤ 0 := fun c hc => by
        rcases Int.lt_or_le 0 (turn (vx a j) (nx a j) c) with h2 | h2
        · exact absurd ⟨c, hc, h2⟩ h
        · exact h2
      -- the corner of b where the function is greatest bounds it at the center
      obtain ⟨i, hi, hm⟩ := vb.top (turn (vx a j) (nx a j))
      have hT := vb.corner hi
      have q1 := pos_one.1 hb i (by rw [dbl_len]; exact hi)
      have q2 := pos_one.1 hb (Val.pre b i) (by rw [dbl_len]; exact vb.pre_lt i)
      rw [dbl_turn] at q1 q2
      rw [vb.nx_pre hi] at q2
      have g1 := hm ((i + 1) % b.length) (vb.nxl hi)
      have g2 := hm (Val.pre b i) (vb.pre_lt i)
      have g0 := hle _ (vx_mem hi)
      change turn (vx a j) (nx a j) (nx b i) ≤ _ at g1
      generalize vx a j = s at *
      generalize nx a j = t at *
      generalize vx b (Val.pre b i) = P at *
      generalize nx b i = N at *
      generalize vx b i = O at *
      have key : ∀ q, turn P O N * (turn s t q - turn s t O) = turn P O q * (turn s t N - turn s t O) + turn O N q * (turn s t P - turn s t O) := fun q => by unfold turn; grind
      have k1 := key (x, y)
      have k2 := key (x + 1, y)
      have k3 := key (x, y + 1)
      have k4 := key (x + 1, y + 1)
      have e : turn P O N * (turn s t (x, y) + turn s t (x + 1, y) + turn s t (x, y + 1) + turn s t (x + 1, y + 1) - 4 * turn s t O) =
        (turn P O (x, y) + turn P O (x + 1, y) + turn P O (x, y + 1) + turn P O (x + 1, y + 1)) * (turn s t N - turn s t O) + (turn O N (x, y) + turn O N (x + 1, y) + turn O N (x, y + 1) + turn O N (x + 1, y + 1)) * (turn s t P - turn s t O) := by grind
      have m1 := Int.mul_nonneg (Int.le_of_lt q2) (by omega : 0 ≤ turn s t O - turn s t N)
      have m2 := Int.mul_nonneg (Int.le_of_lt q1) (by omega : 0 ≤ turn s t O - turn s t P)
      have m3 : 0 < turn P O N * (turn s t (x, y) + turn s t (x + 1, y) + turn s t (x, y + 1) + turn s t (x + 1, y + 1) - 4 * turn s t O) := Int.mul_pos hT (by omega)
      have n1 : ∀ A B C : Int, A * (B - C) = -(A * (C - B)) := fun A B C => by grind
      rw [n1 _ (turn s t N), n1 _ (turn s t P)] at e
      omega
  exact ⟨K vb ha hb, K va hb ha⟩
theorem sep_inside {a b : List Pt} (va : Val a) (vb : Val b) {p : Pt} (_hp : On p) : insP a p = 1 → insP b p = 1 → sideP a b = none := fun h1 h2 =>
  (side_none ((valB_iff _).2 va) ((valB_iff _).2 vb)).2 (meet_of_place va vb (ins_one h1) (ins_one h2))
theorem cell_one {l : List Pt} {x y : Int} (h : cellP l x y = 1) : posP (dbl l) (2 * x + 1, 2 * y + 1) = 1 := by
  unfold cellP at h
  split at h
  · exact h
  · omega
theorem sep_cell {a b : List Pt} (va : Val a) (vb : Val b) {x y : Int} (_hp : On (x, y)) : cellP a x y = 1 → cellP b x y = 1 → sideP a b = none := fun h1 h2 =>
  (side_none ((valB_iff _).2 va) ((valB_iff _).2 vb)).2 (meet_of_center va vb (cell_one h1) (cell_one h2))
/-- The edge that separates. -/
theorem side_spec {a b : List Pt} (va : Val a) (vb : Val b) : ∀ wh ed, sideP a b = some (wh, ed) → (wh = 0 ∧ ed < a.length ∧ ∀ c ∈ b, turn (vx a ed) (nx a ed) c ≤ 0) ∨ (wh = 1 ∧ ed < b.length ∧ ∀ c ∈ a, turn (vx b ed) (nx b ed) c ≤ 0) := fun wh ed h => by
  unfold sideP at h
  rw [if_pos ⟨(valB_iff _).2 va, (valB_iff _).2 vb⟩] at h
  rcases e : sep a b with _ | i
  · rw [e] at h
    rcases e2 : sep b a with _ | i
    · rw [e2] at h; cases h
    · rw [e2] at h; cases h
      have := sep_some e2
      exact .inr ⟨rfl, this.1, sepB_iff.1 this.2.1⟩
  · rw [e] at h; cases h
    have := sep_some e
    exact .inl ⟨rfl, this.1, sepB_iff.1 this.2.1⟩
end Pln
namespace Go.Proofs.YtcamncipkofgkaaDoor
open Go.RowKit Go.Shelf Pln
/-- A valid polygon in memory. -/
structure Poly (w : World) (g o c n : Nat) (l : List Pt) : Prop where
  v : Val l
  hn : n = l.length
  at_ : PtsAt w (.slice (some ⟨g, o, none⟩) n c) l
theorem Poly.len {w : World} {g o c n : Nat} {l : List Pt} (h : Poly w g o c n l) : Len l := by have := h.v.hi; unfold Len; omega
theorem Poly.vb {w : World} {g o c n : Nat} {l : List Pt} (h : Poly w g o c n l) : valB l = true := (valB_iff l).2 h.v
theorem Poly.via {w w' : World} {g o c n : Nat} {l : List Pt} (h : Poly w g o c n l) (hB : Below w.heap.size w w') : Poly w' g o c n l := ⟨h.v, h.hn, h.at_.via hB⟩
theorem Poly.cells {w : World} {g o c n : Nat} {l : List Pt} (h : Poly w g o c n l) {j : Nat} (hj : j < n) : w.cell? ⟨g, o + j * 2, none⟩ = some (.int .i64 (vx l j).1) ∧ w.cell? ⟨g, o + j * 2 + 1, none⟩ = some (.int .i64 (vx l j).2) :=
  (at_cells h.at_).2.2.2 j (by rw [← h.hn]; exact hj)
theorem Poly.bd {w : World} {g o c n : Nat} {l : List Pt} (h : Poly w g o c n l) : 3 ≤ n ∧ n ≤ 8 := by have := h.v.lo; have := h.v.hi; have := h.hn; omega
theorem poly_of {w : World} {v : Value} {l : List Pt} (h : PtsAt w v l) (hv : Val l) : ∃ g o c n, v = .slice (some ⟨g, o, none⟩) n c ∧ Poly w g o c n l := by
  obtain ⟨g, o, c, rfl, _, _, _⟩ := at_some h (by have := hv.lo; omega)
  exact ⟨g, o, c, l.length, rfl, hv, rfl, h⟩
theorem pk_on41 {a b : Int} : On (pkN a 41, pkN b 41) := by
  have h1 := pkN_in (c := a) (n := 41) (by omega)
  have h2 := pkN_in (c := b) (n := 41) (by omega)
  exact ⟨h1.1, by show pkN a 41 ≤ 40; omega, h2.1, by show pkN b 41 ≤ 40; omega⟩
end Go.Proofs.YtcamncipkofgkaaDoor
