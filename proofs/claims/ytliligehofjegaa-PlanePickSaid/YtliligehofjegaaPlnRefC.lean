/- The contracts of the reference's end and Valid. -/
import Derived.Test.YtliligehofjegaaPlnRefB
import Derived.Test.YtliligehofjegaaPlnValid
import Derived.Test.YtliligehofjegaaPlnArea
namespace Go.Proofs.Ytliligehofjegaa
open Go.RowKit Go.Shelf Pln

set_option maxRecDepth 100000 in
set_option maxHeartbeats 1000000 in
theorem end_w (l : List Pt) (hl : l.length ≤ 100) (i : Nat) (hi : i < l.length) (v : Value) (w : World) (hv : PtsAt w v l) :
    Calls Try.prog 64 #[v, .int .i64 i] w fun e w' => e = .returned (pv (nx l i)) ∧ Below w.heap.size w w' := by
  obtain ⟨g, o, c, rfl, _, _, hcells⟩ := at_some hv (by omega)
  obtain ⟨n, hn⟩ : ∃ n, n = l.length := ⟨_, rfl⟩
  have hnx : vx l ((i + 1) % n) = nx l i := by unfold nx; rw [hn]
  rw [← hn] at hl hi hcells ⊢
  have hm : (i + 1) % n < n := Nat.mod_lt _ (by omega)
  have hrem : ((i : Int) + 1).tmod n = (((i + 1) % n : Nat) : Int) := by rw [Int.tmod_eq_emod_of_nonneg (by omega)]; simp
  have hw1 : IntKind.i64.wrap ((i : Int) + 1) = (i : Int) + 1 := IntWalk.i64_in _ (by omega)
  have hn0 : ¬ n = 0 := by omega
  obtain ⟨c0, c1⟩ := hcells _ hm
  rw [hnx] at c0 c1
  have hmb : (((i + 1) % n : Nat) : Int) < n := by omega
  have hB := alloc_below w (.cells #[.int .i64 0, .int .i64 0] 26)
  have d0 := keptBelow hB c0
  have d1 := keptBelow hB c1
  clear hcells hn hv hnx hB
  generalize (i + 1) % n = m at *
  generalize nx l i = q at *
  obtain ⟨q1, q2⟩ := q
  unfold pv
  dsimp only at c0 c1 d0 d1 ⊢
  go_enter Try.func64, Try.ntmps64
  go_wp2_with fail
  refine bodyPost_ret (v := .agg #[.int .i64 q1, .int .i64 q2]) (by simp [results, Try.results64, go_sem]) rfl ⟨rfl, ?_⟩
  exact alloc_below _ _
theorem valB_parts {l : List Pt} (h3 : 3 ≤ l.length) (h8 : l.length ≤ 8) (ho : onsB l l.length = true) : valB l = rowsB l l.length := by
  unfold valB; rw [ho, decide_eq_true h3, decide_eq_true h8]; simp
theorem valB_short {l : List Pt} (h : ¬ (3 ≤ l.length ∧ l.length ≤ 8)) : valB l = false := by
  rcases e : valB l with _ | _
  · rfl
  · have v := (valB_iff l).1 e
    exact absurd ⟨v.lo, v.hi⟩ h
theorem valB_off {l : List Pt} {k : Nat} (hk : k < l.length) (h : onB (vx l k) = false) : valB l = false := by
  rcases e : valB l with _ | _
  · rfl
  · have v := (valB_iff l).1 e
    rw [(onB_iff _).2 (v.on k hk)] at h; exact Bool.noConfusion h
theorem valB_turn {l : List Pt} {i k : Nat} (hi : i < l.length) (hk : k < l.length) (h1 : k ≠ i) (h2 : k ≠ (i + 1) % l.length) (h : turn (vx l i) (nx l i) (vx l k) ≤ 0) : valB l = false := by
  rcases e : valB l with _ | _
  · rfl
  · have v := (valB_iff l).1 e
    have := v.left i hi k hk h1 h2
    omega
/-- The edges before i, and edge i against the corners before k, turn as they should. -/
def TurnsTo (l : List Pt) (i k : Nat) : Prop := ∀ a b, (a < i ∨ a = i ∧ b < k) → b < l.length → b ≠ a → b ≠ (a + 1) % l.length → 0 < turn (vx l a) (nx l a) (vx l b)
theorem turns_next {l : List Pt} {i k : Nat} (h : TurnsTo l i k) (hk : k ≠ i → k ≠ (i + 1) % l.length → 0 < turn (vx l i) (nx l i) (vx l k)) : TurnsTo l i (k + 1) := by
  intro a b hab hb h1 h2
  by_cases e : a = i ∧ b = k
  · obtain ⟨rfl, rfl⟩ := e; exact hk h1 h2
  · exact h a b (by omega) hb h1 h2
theorem turns_row {l : List Pt} {i : Nat} (h : TurnsTo l i l.length) : TurnsTo l (i + 1) 0 := fun a b hab hb h1 h2 => h a b (by omega) hb h1 h2
theorem turns_val {l : List Pt} (h3 : 3 ≤ l.length) (h8 : l.length ≤ 8) (ho : ∀ j, j < l.length → onB (vx l j) = true) (h : TurnsTo l l.length 0) : valB l = true :=
  (valB_iff l).2 ⟨h3, h8, fun i hi => (onB_iff _).1 (ho i hi), fun i hi j hj h1 h2 => h i j (by omega) hj h1 h2⟩
/-- One operation alone may come up, and it is not wanted. -/
theorem wpT_skipone {F : Fence} {n : Nat} {P : Program} {ops : Array Oper} {Q : Exit → Act → World → Prop} {md : Region.Mode} {S : World → Prop} (i : Nat) {k : Nat} {oi : Oper} {fuel : Nat} {listed : Array Bool} {a : Act} {w : World} (hi : ops[i]? = some oi) (hg : Region.wanted oi (yielded ops a.tmps) = false) (hr : Region.ready md ops listed = [i])
    (hab : ∀ f, oi.about P w a.eval = some f → F.fn f) (h : ((listed.setIfInBounds i true).getD k true = false → S w) ∧ wpT F n P md ops Q S k fuel (listed.setIfInBounds i true) (a.put oi.dst undef) w) : wpT F n P md ops Q S k (fuel + 1) listed a w := by
  refine ⟨fun h0 => (by rw [hr] at h0; cases h0), fun j hj => ?_⟩
  rw [hr] at hj
  obtain rfl : j = i := by simpa using hj
  unfold wpOpIn
  simp only [hi, hg, Bool.false_eq_true, if_false]
  exact ⟨hab, h⟩
set_option maxRecDepth 100000 in
set_option maxHeartbeats 2000000 in
theorem validR_w (l : List Pt) (hl : Len l) (v : Value) (w : World) (hv : PtsAt w v l) :
    Calls Try.prog 36 #[v] w fun e w' => e = .returned (.bool (valB l)) ∧ Below w.heap.size w w' := by
  have HV := Lib.hid hv
  obtain ⟨⟨aa, ca, rfl, _, _, _⟩, _⟩ := hv
  obtain ⟨n, hn⟩ : ∃ n, n = l.length := ⟨_, rfl⟩
  have HNN := Lib.hid hn
  have hnb : (n : Int) ≤ 4611686018427387904 := by unfold Len at hl; omega
  rw [← hn] at HV ⊢
  clear hn hl
  by_cases h3 : n < 3
  · have HR := Lib.hid (valB_short (l := l) (by rw [← HNN.out]; omega))
    have h3' : (n : Int) < 3 := by omega
    clear h3
    go_enter Try.func36, Try.ntmps36
    go_wp2_with fail
    go_ret
    exact ⟨ret_bool HR.out.symm, Below.refl _ _⟩
  by_cases h8 : 8 < n
  · have HR := Lib.hid (valB_short (l := l) (by rw [← HNN.out]; omega))
    have h3' : 3 ≤ (n : Int) := by omega
    have h8' : (8 : Int) < n := by omega
    clear h3 h8
    go_enter Try.func36, Try.ntmps36
    go_wp2_with fail
    go_ret
    exact ⟨ret_bool HR.out.symm, Below.refl _ _⟩
  have h3' : 3 ≤ (n : Int) := by omega
  have h8' : (n : Int) ≤ 8 := by omega
  have H3 := Lib.hid (show 3 ≤ l.length by rw [← HNN.out]; omega)
  have H8 := Lib.hid (show l.length ≤ 8 by rw [← HNN.out]; omega)
  clear h3 h8
  go_enter Try.func36, Try.ntmps36
  go_wp2_with fail
  go_loopw [3] (fun i wr => ∃ k : Nat, k ≤ n ∧ i = .int .i64 k ∧ (∀ j, j < k → onB (vx l j) = true) ∧ Below w.heap.size w wr) (fun i _ => n - (intOf i).toNat)
  case atStart => exact ⟨0, by omega, rfl, fun j hj => by omega, Below.refl _ _⟩
  case round =>
    obtain ⟨k, hk, rfl, hj, hB⟩ := hrel
    have HJ := Lib.hid hj
    have HB := Lib.hid hB
    clear hj hB
    by_cases hlt : k < n
    · have hlt' : (k : Int) < n := by omega
      have hkl : k < l.length := by rw [← HNN.out]; exact hlt
      have hv2 := HV.out.via HB.out
      obtain ⟨⟨a', c', he, _, _, hin⟩, _⟩ := hv2
      rw [← HNN.out] at he
      cases he
      obtain ⟨g', o, rfl, c0, c1⟩ := hin.get hkl
      have HN := Lib.hid (fun h => valB_off (l := l) hkl h)
      have HY : Hid (onB (vx l k) = true → ∀ j, j < k + 1 → onB (vx l j) = true) := Lib.hid (fun h => snoc_all HJ.out h)
      clear hin hkl
      generalize vx l k = p at *
      obtain ⟨p1, p2⟩ := p
      dsimp only at c0 c1
      have HO := Lib.hid (fun w1 => onMapR_w p1 p2 w1)
      rcases ho : onB (p1, p2) with _ | _
      · have HR := Lib.hid (HN.out ho)
        rw [ho] at HO
        clear ho
        go_wp2_with fail
        refine (HO.out _).mono ?_
        rintro e w2 ⟨rfl, hB2⟩
        have HB2 := Lib.hid (belowStep HB.out hB2)
        clear hB2
        go_wp2_with fail
        go_ret
        exact ⟨ret_bool HR.out.symm, HB2.out⟩
      · have HR := Lib.hid (HY.out ho)
        rw [ho] at HO
        clear ho
        go_wp2_with fail
        refine (HO.out _).mono ?_
        rintro e w2 ⟨rfl, hB2⟩
        have HB2 := Lib.hid (belowStep HB.out hB2)
        clear hB2
        go_wp2_with fail
        go_roundw
        case rel => exact ⟨k + 1, by omega, by go_num, HR.out, HB2.out⟩
        case measure => simp [intOf]; omega
    · obtain rfl : n = k := by omega
      have HON : Hid (∀ j, j < l.length → onB (vx l j) = true) := Lib.hid (fun j hj => HJ.out j (by rw [HNN.out]; exact hj))
      go_wp2_with fail
      obtain ⟨W, hW⟩ : ∃ W, W = wr := ⟨_, rfl⟩
      subst hW
      go_loopw [4] (fun s wx => ∃ i : Nat, i ≤ n ∧ s = .int .i64 i ∧ TurnsTo l i 0 ∧ Below w.heap.size w wx) (fun s _ => n - (intOf s).toNat)
      case atStart => exact ⟨0, by omega, rfl, fun a b hab => by omega, HB.out⟩
      case round =>
        obtain ⟨i, hi, rfl, ht, hB⟩ := hrel
        have HTT := Lib.hid ht
        have HB4 := Lib.hid hB
        clear ht hB
        by_cases hin : i < n
        · have hin' : (i : Int) < n := by omega
          have hil : i < l.length := by rw [← HNN.out]; exact hin
          have HIL := Lib.hid hil
          clear hil
          obtain ⟨W4, hW4⟩ : ∃ W4, W4 = wr := ⟨_, rfl⟩
          subst hW4
          go_wp2_with fail
          go_loopw [5] (fun s wx => ∃ k : Nat, k ≤ n ∧ s = .int .i64 k ∧ TurnsTo l i k ∧ Below w.heap.size w wx) (fun s _ => n - (intOf s).toNat)
          case atStart => exact ⟨0, by omega, rfl, HTT.out, HB4.out⟩
          case round =>
            obtain ⟨k, hk, rfl, ht, hB⟩ := hrel
            have HTK := Lib.hid ht
            have HB5 := Lib.hid hB
            clear ht hB
            by_cases hkn : k < n
            · have hkn' : (k : Int) < n := by omega
              have hkl : k < l.length := by rw [← HNN.out]; exact hkn
              have hv2 := HV.out.via HB5.out
              have HV5 := Lib.hid hv2
              obtain ⟨⟨a', c', he, _, _, hc⟩, _⟩ := hv2
              rw [← HNN.out] at he
              cases he
              obtain ⟨g, o, rfl, c0, c1⟩ := hc.get HIL.out
              obtain ⟨g', o', he, d0, d1⟩ := hc.get hkl
              cases he
              have hm : (i + 1) % n < n := Nat.mod_lt _ (by omega)
              have hrem : ((i : Int) + 1).tmod n = (((i + 1) % n : Nat) : Int) := by rw [Int.tmod_eq_emod_of_nonneg (by omega)]; simp
              have hw1 : IntKind.i64.wrap ((i : Int) + 1) = (i : Int) + 1 := IntWalk.i64_in _ (by omega)
              have hn0 : ¬ n = 0 := by omega
              have HNX := Lib.hid (fun h => turns_next (k := k) HTK.out h)
              have HEND := Lib.hid (fun w1 hB => end_w l (by have := H8.out; omega) i HIL.out _ w1 (HV.out.via hB))
              have hml : ((i + 1) % l.length) = (i + 1) % n := by rw [HNN.out]
              have HBAD := Lib.hid (valB_turn HIL.out hkl)
              rw [hml] at HNX HBAD
              have hs1 := on_sml ((onB_iff _).1 (HON.out i HIL.out))
              have hs2 := on_sml ((onB_iff _).1 (HON.out k hkl))
              have hs3 := on_sml ((onB_iff _).1 (HON.out _ (mod_lt' HIL.out)))
              have HTU := Lib.hid (turnR_w (vx l i) (nx l i) (vx l k) hs1 hs3 hs2)
              clear hc hkl hml hs1 hs2 hs3
              generalize (i + 1) % n = m at *
              generalize vx l i = p at *
              generalize vx l k = q at *
              generalize nx l i = r at *
              obtain ⟨p1, p2⟩ := p
              obtain ⟨q1, q2⟩ := q
              obtain ⟨r1, r2⟩ := r
              unfold pv at HTU HEND
              dsimp only at c0 c1 d0 d1 HTU HEND
              generalize turn (p1, p2) (r1, r2) (q1, q2) = tt at *
              by_cases hki : k = i
              · subst hki
                have HR := Lib.hid (HNX.out (fun h => absurd rfl h))
                go_wp2_with fail
                go_quiet (fail)
                go_wp2_with fail
                go_roundw
                case rel => exact ⟨k + 1, by omega, by go_num, HR.out, below_drewN HB5.out _⟩
                case measure => simp [intOf]; omega
              · by_cases hkm : k = m
                · subst hkm
                  have HR := Lib.hid (HNX.out (fun _ h => absurd rfl h))
                  have hki' : ¬ (k : Int) = i := by omega
                  have hki2 : ((k : Int) == i) = false := by simp; omega
                  have hki3 : ((k : Int) != i) = true := by simp; omega
                  have hkd : decide ((k : Int) = i) = false := decide_eq_false hki'
                  go_wp2_with fail
                  refine (wpIn_wide (n := 5)).1 ?_
                  refine wpIn_region_T (fun w' => Below wr.drew.heap.size wr.drew w') 26 (by kernel_rfl) ?_
                  have hd : Below wr.heap.size wr wr.drew := (Below.refl _ _).drew
                  generalize wr.drew = wd at *
                  refine wpT_tk 0 38 (v := ?_) (Below.refl _ _) rfl rfl (by rfl) (hy := fun w hw => ?_) (h := ?_)
                  rotate_left
                  · go_simp; with_reducible rfl
                  try simp only [Act.put, List.setIfInBounds_toArray, List.set_cons_zero, List.set_cons_succ]
                  refine wpT_tk 1 39 (v := ?_) (Below.refl _ _) rfl rfl (by rfl) (hy := fun w hw => ?_) (h := ?_)
                  rotate_left
                  · go_simp; with_reducible rfl
                  try simp only [Act.put, List.setIfInBounds_toArray, List.set_cons_zero, List.set_cons_succ]
                  refine wpT_tk 2 40 (v := ?_) (Below.refl _ _) rfl rfl (by rfl) (hy := fun w hw => ?_) (h := ?_)
                  rotate_left
                  · go_simp; with_reducible rfl
                  try simp only [Act.put, List.setIfInBounds_toArray, List.set_cons_zero, List.set_cons_succ]
                  refine wpT_tk 3 41 (v := ?_) (Below.refl _ _) rfl rfl (by rfl) (hy := fun w hw => ?_) (h := ?_)
                  rotate_left
                  · go_simp; with_reducible rfl
                  try simp only [Act.put, List.setIfInBounds_toArray, List.set_cons_zero, List.set_cons_succ]
                  refine wpT_tk 4 42 (v := ?_) (Below.refl _ _) rfl rfl (by rfl) (hy := fun w hw => ?_) (h := ?_)
                  rotate_left
                  · go_simp; with_reducible rfl
                  try simp only [Act.put, List.setIfInBounds_toArray, List.set_cons_zero, List.set_cons_succ]
                  refine wpT_tk 5 43 (v := ?_) (Below.refl _ _) rfl rfl (by rfl) (hy := fun w hw => ?_) (h := ?_)
                  rotate_left
                  · go_simp; with_reducible rfl
                  try simp only [Act.put, List.setIfInBounds_toArray, List.set_cons_zero, List.set_cons_succ]
                  refine wpT_tk 6 44 (v := ?_) (Below.refl _ _) rfl rfl (by rfl) (hy := fun w hw => ?_) (h := ?_)
                  rotate_left
                  · go_simp; with_reducible rfl
                  try simp only [Act.put, List.setIfInBounds_toArray, List.set_cons_zero, List.set_cons_succ]
                  refine wpT_tk 7 45 (v := ?_) (Below.refl _ _) rfl rfl (by rfl) (hy := fun w hw => ?_) (h := ?_)
                  rotate_left
                  · go_simp; with_reducible rfl
                  try simp only [Act.put, List.setIfInBounds_toArray, List.set_cons_zero, List.set_cons_succ]
                  refine wpT_tk 8 46 (v := ?_) (Below.refl _ _) rfl rfl (by rfl) (hy := fun w hw => ?_) (h := ?_)
                  rotate_left
                  · go_simp; with_reducible rfl
                  try simp only [Act.put, List.setIfInBounds_toArray, List.set_cons_zero, List.set_cons_succ]
                  refine wpT_tk 9 47 (v := ?_) (Below.refl _ _) rfl rfl (by rfl) (hy := fun w hw => ?_) (h := ?_)
                  rotate_left
                  · go_simp; with_reducible rfl
                  try simp only [Act.put, List.setIfInBounds_toArray, List.set_cons_zero, List.set_cons_succ]
                  refine wpT_tk 10 48 (v := ?_) (Below.refl _ _) rfl rfl (by rfl) (hy := fun w hw => ?_) (h := ?_)
                  rotate_left
                  · go_simp; with_reducible rfl
                  try simp only [Act.put, List.setIfInBounds_toArray, List.set_cons_zero, List.set_cons_succ]
                  refine wpT_tk 11 49 (v := ?_) (Below.refl _ _) rfl rfl (by rfl) (hy := fun w hw => ?_) (h := ?_)
                  rotate_left
                  · go_simp; with_reducible rfl
                  try simp only [Act.put, List.setIfInBounds_toArray, List.set_cons_zero, List.set_cons_succ]
                  refine wpT_tk 12 50 (v := ?_) (Below.refl _ _) rfl rfl (by rfl) (hy := fun w hw => ?_) (h := ?_)
                  rotate_left
                  · go_simp; with_reducible rfl
                  try simp only [Act.put, List.setIfInBounds_toArray, List.set_cons_zero, List.set_cons_succ]
                  refine wpT_take 13 (d := some 51) (v := undef) (Below.refl _ _) rfl rfl (by kernel_rfl) (by kernel_rfl) (by kernel_rfl) (by kernel_rfl) (by kernel_rfl) (fun _ _ _ h => h) ⟨.inr ⟨by rfl, rfl⟩, fun _ => rfl⟩ ?_
                  try simp only [Act.put, List.setIfInBounds_toArray, List.set_cons_zero, List.set_cons_succ]
                  refine wpT_take 14 (d := some 52) (v := undef) (Below.refl _ _) rfl rfl (by kernel_rfl) (by kernel_rfl) (by kernel_rfl) (by kernel_rfl) (by kernel_rfl) (fun _ _ _ h => h) ⟨.inr ⟨by rfl, rfl⟩, fun _ => rfl⟩ ?_
                  try simp only [Act.put, List.setIfInBounds_toArray, List.set_cons_zero, List.set_cons_succ]
                  refine wpT_take 15 (d := some 53) (v := undef) (Below.refl _ _) rfl rfl (by kernel_rfl) (by kernel_rfl) (by kernel_rfl) (by kernel_rfl) (by kernel_rfl) (fun _ _ _ h => h) ⟨.inr ⟨by rfl, rfl⟩, fun _ => rfl⟩ ?_
                  try simp only [Act.put, List.setIfInBounds_toArray, List.set_cons_zero, List.set_cons_succ]
                  refine wpT_take 16 (d := some 54) (v := undef) (Below.refl _ _) rfl rfl (by kernel_rfl) (by kernel_rfl) (by kernel_rfl) (by kernel_rfl) (by kernel_rfl) (fun _ _ _ h => h) ⟨.inr ⟨by rfl, rfl⟩, fun _ => rfl⟩ ?_
                  try simp only [Act.put, List.setIfInBounds_toArray, List.set_cons_zero, List.set_cons_succ]
                  refine wpT_take 17 (d := some 55) (v := undef) (Below.refl _ _) rfl rfl (by kernel_rfl) (by kernel_rfl) (by kernel_rfl) (by kernel_rfl) (by kernel_rfl) (fun _ _ _ h => h) ⟨.inr ⟨by rfl, rfl⟩, fun _ => rfl⟩ ?_
                  try simp only [Act.put, List.setIfInBounds_toArray, List.set_cons_zero, List.set_cons_succ]
                  refine wpT_take 18 (d := some 56) (v := undef) (Below.refl _ _) rfl rfl (by kernel_rfl) (by kernel_rfl) (by kernel_rfl) (by kernel_rfl) (by kernel_rfl) (fun _ _ _ h => h) ⟨.inr ⟨by rfl, rfl⟩, fun _ => rfl⟩ ?_
                  try simp only [Act.put, List.setIfInBounds_toArray, List.set_cons_zero, List.set_cons_succ]
                  refine wpT_take 20 (d := some 58) (v := undef) (Below.refl _ _) rfl rfl (by kernel_rfl) (by kernel_rfl) (by kernel_rfl) (by kernel_rfl) (by kernel_rfl) (fun _ _ _ h => h) ⟨.inr ⟨by rfl, rfl⟩, fun _ => rfl⟩ ?_
                  try simp only [Act.put, List.setIfInBounds_toArray, List.set_cons_zero, List.set_cons_succ]
                  refine wpT_take 21 (d := some 59) (v := undef) (Below.refl _ _) rfl rfl (by kernel_rfl) (by kernel_rfl) (by kernel_rfl) (by kernel_rfl) (by kernel_rfl) (fun _ _ _ h => h) ⟨.inr ⟨by rfl, rfl⟩, fun _ => rfl⟩ ?_
                  try simp only [Act.put, List.setIfInBounds_toArray, List.set_cons_zero, List.set_cons_succ]
                  refine wpT_take 22 (d := some 60) (v := undef) (Below.refl _ _) rfl rfl (by kernel_rfl) (by kernel_rfl) (by kernel_rfl) (by kernel_rfl) (by kernel_rfl) (fun _ _ _ h => h) ⟨.inr ⟨by rfl, rfl⟩, fun _ => rfl⟩ ?_
                  try simp only [Act.put, List.setIfInBounds_toArray, List.set_cons_zero, List.set_cons_succ]
                  refine wpT_take 23 (d := some 61) (v := undef) (Below.refl _ _) rfl rfl (by kernel_rfl) (by kernel_rfl) (by kernel_rfl) (by kernel_rfl) (by kernel_rfl) (fun _ _ _ h => h) ⟨.inr ⟨by rfl, rfl⟩, fun _ => rfl⟩ ?_
                  try simp only [Act.put, List.setIfInBounds_toArray, List.set_cons_zero, List.set_cons_succ]
                  refine wpT_skipone 19 rfl (by rfl) (by kernel_rfl) (fun _ _ => trivial) ⟨fun _ => Below.refl _ _, ?_⟩
                  try simp only [Act.put, List.setIfInBounds_toArray, List.set_cons_zero, List.set_cons_succ]
                  refine wpT_skipone 24 rfl (by rfl) (by kernel_rfl) (fun _ _ => trivial) ⟨fun _ => Below.refl _ _, ?_⟩
                  try simp only [Act.put, List.setIfInBounds_toArray, List.set_cons_zero, List.set_cons_succ]
                  refine wpT_skipone 25 rfl (by rfl) (by kernel_rfl) (fun _ _ => trivial) ⟨fun _ => Below.refl _ _, ?_⟩
                  try simp only [Act.put, List.setIfInBounds_toArray, List.set_cons_zero, List.set_cons_succ]
                  refine wpT_oneW 26 rfl (by rfl) (by kernel_rfl) ?_
                  go_simp
                  refine wpT_done (by kernel_rfl) ?_ _
                  have HB7 := Lib.hid (belowStep HB5.out hd)
                  clear hd
                  go_wp2_with fail
                  go_roundw
                  case rel => exact ⟨k + 1, by omega, by go_num, HR.out, HB7.out⟩
                  case measure => simp [intOf]; omega
                · have hki' : ¬ (k : Int) = i := by omega
                  have hkm' : ¬ (k : Int) = m := by omega
                  have hki3 : ((k : Int) != i) = true := by simp; omega
                  have hkm3 : ((k : Int) != m) = true := by simp; omega
                  have hkd : decide ((k : Int) = i) = false := decide_eq_false hki'
                  have hkd2 : decide ((k : Int) = m) = false := decide_eq_false hkm'
                  go_wp2_with fail
                  refine (wpIn_wide (n := 5)).1 ?_
                  refine wpIn_region_T (fun w' => Below wr.drew.heap.size wr.drew w') 24 (by kernel_rfl) ?_
                  have hd : Below wr.heap.size wr wr.drew := (Below.refl _ _).drew
                  generalize wr.drew = wd at *
                  have c0 := keptBelow hd c0
                  have c1 := keptBelow hd c1
                  have d0 := keptBelow hd d0
                  have d1 := keptBelow hd d1
                  refine wpT_tk 0 38 (v := ?_) (Below.refl _ _) rfl rfl (by rfl) (hy := fun w hw => ?_) (h := ?_)
                  rotate_left
                  · go_simp; with_reducible rfl
                  try simp only [Act.put, List.setIfInBounds_toArray, List.set_cons_zero, List.set_cons_succ]
                  refine wpT_tk 1 39 (v := ?_) (Below.refl _ _) rfl rfl (by rfl) (hy := fun w hw => ?_) (h := ?_)
                  rotate_left
                  · go_simp; with_reducible rfl
                  try simp only [Act.put, List.setIfInBounds_toArray, List.set_cons_zero, List.set_cons_succ]
                  refine wpT_tk 2 40 (v := ?_) (Below.refl _ _) rfl rfl (by rfl) (hy := fun w hw => ?_) (h := ?_)
                  rotate_left
                  · go_simp; with_reducible rfl
                  try simp only [Act.put, List.setIfInBounds_toArray, List.set_cons_zero, List.set_cons_succ]
                  refine wpT_tk 3 41 (v := ?_) (Below.refl _ _) rfl rfl (by rfl) (hy := fun w hw => ?_) (h := ?_)
                  rotate_left
                  · go_simp; with_reducible rfl
                  try simp only [Act.put, List.setIfInBounds_toArray, List.set_cons_zero, List.set_cons_succ]
                  refine wpT_tk 4 42 (v := ?_) (Below.refl _ _) rfl rfl (by rfl) (hy := fun w hw => ?_) (h := ?_)
                  rotate_left
                  · go_simp; with_reducible rfl
                  try simp only [Act.put, List.setIfInBounds_toArray, List.set_cons_zero, List.set_cons_succ]
                  refine wpT_tk 5 43 (v := ?_) (Below.refl _ _) rfl rfl (by rfl) (hy := fun w hw => ?_) (h := ?_)
                  rotate_left
                  · go_simp; with_reducible rfl
                  try simp only [Act.put, List.setIfInBounds_toArray, List.set_cons_zero, List.set_cons_succ]
                  refine wpT_tk 6 44 (v := ?_) (Below.refl _ _) rfl rfl (by rfl) (hy := fun w hw => ?_) (h := ?_)
                  rotate_left
                  · go_simp; with_reducible rfl
                  try simp only [Act.put, List.setIfInBounds_toArray, List.set_cons_zero, List.set_cons_succ]
                  refine wpT_tk 7 45 (v := ?_) (Below.refl _ _) rfl rfl (by rfl) (hy := fun w hw => ?_) (h := ?_)
                  rotate_left
                  · go_simp; with_reducible rfl
                  try simp only [Act.put, List.setIfInBounds_toArray, List.set_cons_zero, List.set_cons_succ]
                  refine wpT_tk 8 46 (v := ?_) (Below.refl _ _) rfl rfl (by rfl) (hy := fun w hw => ?_) (h := ?_)
                  rotate_left
                  · go_simp; with_reducible rfl
                  try simp only [Act.put, List.setIfInBounds_toArray, List.set_cons_zero, List.set_cons_succ]
                  refine wpT_tk 9 47 (v := ?_) (Below.refl _ _) rfl rfl (by rfl) (hy := fun w hw => ?_) (h := ?_)
                  rotate_left
                  · go_simp; with_reducible rfl
                  try simp only [Act.put, List.setIfInBounds_toArray, List.set_cons_zero, List.set_cons_succ]
                  refine wpT_tk 10 48 (v := ?_) (Below.refl _ _) rfl rfl (by rfl) (hy := fun w hw => ?_) (h := ?_)
                  rotate_left
                  · go_simp; with_reducible rfl
                  try simp only [Act.put, List.setIfInBounds_toArray, List.set_cons_zero, List.set_cons_succ]
                  refine wpT_tk 11 49 (v := ?_) (Below.refl _ _) rfl rfl (by rfl) (hy := fun w hw => ?_) (h := ?_)
                  rotate_left
                  · go_simp; with_reducible rfl
                  try simp only [Act.put, List.setIfInBounds_toArray, List.set_cons_zero, List.set_cons_succ]
                  refine wpT_tk 12 50 (v := ?_) (Below.refl _ _) rfl rfl (by rfl) (hy := fun w hw => ?_) (h := ?_)
                  rotate_left
                  · go_simp; with_reducible rfl
                  try simp only [Act.put, List.setIfInBounds_toArray, List.set_cons_zero, List.set_cons_succ]
                  refine wpT_tk 13 51 (v := ?_) (Below.refl _ _) rfl rfl (by rfl) (hy := fun w hw => ?_) (h := ?_)
                  rotate_left
                  · go_simp; with_reducible rfl
                  try simp only [Act.put, List.setIfInBounds_toArray, List.set_cons_zero, List.set_cons_succ]
                  refine wpT_tk 14 52 (v := ?_) (Below.refl _ _) rfl rfl (by rfl) (hy := fun w hw => ?_) (h := ?_)
                  rotate_left
                  · go_simp; with_reducible rfl
                  try simp only [Act.put, List.setIfInBounds_toArray, List.set_cons_zero, List.set_cons_succ]
                  refine wpT_tk 15 53 (v := ?_) (Below.refl _ _) rfl rfl (by rfl) (hy := fun w hw => ?_) (h := ?_)
                  rotate_left
                  · go_simp; with_reducible rfl
                  try simp only [Act.put, List.setIfInBounds_toArray, List.set_cons_zero, List.set_cons_succ]
                  refine wpT_tk 16 54 (v := ?_) (Below.refl _ _) rfl rfl (by rfl) (hy := fun w hw => ?_) (h := ?_)
                  rotate_left
                  · have c0 := keptBelow hw c0; have c1 := keptBelow hw c1; go_simp; with_reducible rfl
                  try simp only [Act.put, List.setIfInBounds_toArray, List.set_cons_zero, List.set_cons_succ]
                  refine wpT_tk 17 55 (v := ?_) (Below.refl _ _) rfl rfl (by rfl) (hy := fun w hw => ?_) (h := ?_)
                  rotate_left
                  · go_simp; with_reducible rfl
                  try simp only [Act.put, List.setIfInBounds_toArray, List.set_cons_zero, List.set_cons_succ]
                  refine wpT_tk 18 56 (v := ?_) (Below.refl _ _) rfl rfl (by rfl) (hy := fun w hw => ?_) (h := ?_)
                  rotate_left
                  · go_simp; with_reducible rfl
                  try simp only [Act.put, List.setIfInBounds_toArray, List.set_cons_zero, List.set_cons_succ]
                  refine wpT_tk 20 58 (v := ?_) (Below.refl _ _) rfl rfl (by rfl) (hy := fun w hw => ?_) (h := ?_)
                  rotate_left
                  · go_simp; with_reducible rfl
                  try simp only [Act.put, List.setIfInBounds_toArray, List.set_cons_zero, List.set_cons_succ]
                  refine wpT_tk 21 59 (v := ?_) (Below.refl _ _) rfl rfl (by rfl) (hy := fun w hw => ?_) (h := ?_)
                  rotate_left
                  · go_simp; with_reducible rfl
                  try simp only [Act.put, List.setIfInBounds_toArray, List.set_cons_zero, List.set_cons_succ]
                  refine wpT_tk 22 60 (v := ?_) (Below.refl _ _) rfl rfl (by rfl) (hy := fun w hw => ?_) (h := ?_)
                  rotate_left
                  · go_simp; with_reducible rfl
                  try simp only [Act.put, List.setIfInBounds_toArray, List.set_cons_zero, List.set_cons_succ]
                  refine wpT_tk 23 61 (v := ?_) (Below.refl _ _) rfl rfl (by rfl) (hy := fun w hw => ?_) (h := ?_)
                  rotate_left
                  · have d0 := keptBelow hw d0; have d1 := keptBelow hw d1; go_simp; with_reducible rfl
                  try simp only [Act.put, List.setIfInBounds_toArray, List.set_cons_zero, List.set_cons_succ]
                  refine wpT_oneW 19 rfl (by rfl) (by kernel_rfl) ?_
                  go_simp
                  refine ⟨trivial, ?_⟩
                  refine (callsIn_wide.2 (HEND.out wd (belowStep HB5.out hd))).mono ?_
                  rintro e w6 ⟨rfl, hB6⟩
                  refine ⟨hB6, ?_⟩
                  refine wpT_oneW 24 rfl (by rfl) (by kernel_rfl) ?_
                  go_simp
                  refine ⟨trivial, ?_⟩
                  refine (callsIn_wide.2 (HTU.out w6)).mono ?_
                  rintro e w7 ⟨rfl, hB7⟩
                  have HB7 := Lib.hid (belowStep HB5.out (belowStep hd (belowStep hB6 hB7)))
                  clear hB6 hB7 hd c0 c1 d0 d1
                  refine wpT_oneW 25 rfl (by rfl) (by kernel_rfl) ?_
                  go_simp
                  refine wpT_oneW 26 rfl (by rfl) (by kernel_rfl) ?_
                  go_simp
                  refine wpT_done (by kernel_rfl) ?_ _
                  by_cases hp : tt ≤ 0
                  · have HR := Lib.hid (HBAD.out hki hkm hp)
                    go_wp2_with fail
                    go_ret
                    exact ⟨ret_bool HR.out.symm, HB7.out⟩
                  · have hp' : 0 < tt := by omega
                    have HR := Lib.hid (HNX.out (fun _ _ => hp'))
                    clear hp
                    go_wp2_with fail
                    go_roundw
                    case rel => exact ⟨k + 1, by omega, by go_num, HR.out, HB7.out⟩
                    case measure => simp [intOf]; omega
            · obtain rfl : n = k := by omega
              have HR := Lib.hid (turns_row (by rw [← HNN.out]; exact HTK.out : TurnsTo l i l.length))
              go_wp2_with fail
              go_roundw
              case rel => exact ⟨i + 1, by omega, by go_num, HR.out, HB5.out⟩
              case measure => simp [intOf]; omega
        · obtain rfl : n = i := by omega
          have HR := Lib.hid (turns_val H3.out H8.out HON.out (by rw [← HNN.out]; exact HTT.out))
          go_wp2_with fail
          go_ret
          exact ⟨ret_bool HR.out.symm, HB4.out⟩
end Go.Proofs.Ytliligehofjegaa
