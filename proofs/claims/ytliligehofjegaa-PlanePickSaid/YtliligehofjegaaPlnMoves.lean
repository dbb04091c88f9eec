/- The walk of PlaneMoves. -/
import Derived.Test.YtliligehofjegaaPlnPoly
import Derived.Test.YtliligehofjegaaPlnShfP
import Derived.Test.YtliligehofjegaaPlnSeamP
import Derived.Test.YtliligehofjegaaPlnSane
import Derived.Deep.DeepCutAuto
namespace Pln
theorem shf_on {a : List Pt} {X Y : Int} (h : offB a X Y a.length = false) : ∀ p ∈ shf a X Y, On p := fun p hp => by
  obtain ⟨i, hi, rfl⟩ := mem_vx hp
  rw [shf_len] at hi
  rw [shf_vx hi]
  exact (onB_iff _).1 ((offB_iff a X Y a.length).1 h i hi)
/-- What stays, and how moments change. -/
structure MovF (a : List Pt) (X Y : Int) (c : List Pt) : Prop where
  v : Val c
  len : c.length = a.length
  area : areaP c = areaP a
  mx : mxP c = mxP a + 3 * X * areaP a
  my : myP c = myP a + 3 * Y * areaP a
  inn : innP c = innP a
  bnd : bndP c = bndP a
  back : moveP c (-X) (-Y) = some a
theorem mov_f {a : List Pt} {X Y : Int} (v : Val a) (h : offB a X Y a.length = false) : MovF a X Y (shf a X Y) := by
  have vc := val_shf v (shf_on h)
  have wa := (valB_iff a).2 v
  have wc := (valB_iff _).2 vc
  have e := shf_len a X Y
  refine ⟨vc, e, ?_, ?_, ?_, ?_, ?_, ?_⟩
  · unfold areaP; rw [if_pos wa, if_pos wc, e, area_shf]
  · unfold mxP areaP; rw [if_pos wa, if_pos wc, if_pos wa, e, mx_shf]
  · unfold myP areaP; rw [if_pos wa, if_pos wc, if_pos wa, e, my_shf]
  · unfold innP; rw [if_pos wa, if_pos wc, e, area_shf, stp_shf]
  · unfold bndP; rw [if_pos wa, if_pos wc, e, stp_shf]
  · unfold moveP
    rw [if_pos wc, shf_back, if_pos]
    rw [List.all_eq_true]
    intro p hp
    obtain ⟨i, hi, rfl⟩ := mem_vx hp
    exact (onB_iff _).2 (v.on i hi)
end Pln
namespace Go.Proofs.Ytliligehofjegaa
open Go.RowKit Go.Shelf Pln
theorem seam_ons {a b : List Pt} (va : Val a) (vb : Val b) {P Q : Pt} (h : seamP a b = some (P, Q)) : On P ∧ On Q := by
  have I := seam_some va vb h
  have K : ∀ {c : Pt}, Comn a b c → On c := fun {c} hc => by
    rcases hc.1 with h | h
    · obtain ⟨i, hi, rfl⟩ := mem_vx h; exact va.on i hi
    · obtain ⟨i, hi, rfl⟩ := mem_vx h; exact vb.on i hi
  exact ⟨K I.cP, K I.cQ⟩
/-- What Move returned. -/
def MovedP (a : List Pt) (X Y : Int) (w : World) (r : Value) (e : Int) : Prop :=
  (offB a X Y a.length = false ∧ e = 0 ∧ PtsAt w r (shf a X Y)) ∨ (offB a X Y a.length = true ∧ e = 70 ∧ r = .slice none 0 0)
theorem moved_p (a : List Pt) (va : Val a) (X Y : Int) (hx : I64 X) (hy : I64 Y) (v : Value) (w : World) (hv : PtsAt w v a) :
    Calls Try.prog 29 #[v, .int .i64 X, .int .i64 Y] w fun e w' => ∃ r ee, e = .returned (.tuple #[r, .int .i64 ee]) ∧ MovedP a X Y w' r ee ∧ Below w.heap.size w w' := by
  refine (move_w a (by have := va.hi; unfold Len; omega) X Y hx hy v w hv).mono ?_
  rintro e w' (⟨l, r, h, rfl, hr, hB⟩ | ⟨h, rfl, hB⟩)
  · rw [move_eq va] at h
    rcases ho : offB a X Y a.length with _ | _
    · rw [ho] at h; simp at h; subst h
      exact ⟨_, _, rfl, .inl ⟨ho, rfl, hr⟩, hB⟩
    · rw [ho] at h; simp at h
  · rw [move_eq va] at h
    rcases ho : offB a X Y a.length with _ | _
    · rw [ho] at h; simp at h
    · exact ⟨_, _, rfl, .inr ⟨ho, rfl, rfl⟩, hB⟩
theorem area_bd {a : List Pt} (v : Val a) : -3200000000 ≤ areaP a ∧ areaP a ≤ 3200000000 := by
  unfold areaP; rw [if_pos ((valB_iff a).2 v)]; exact crs_sum v _ (Nat.le_refl _)
theorem mx_bd {a : List Pt} (v : Val a) : -3200000000 ≤ mxP a ∧ mxP a ≤ 3200000000 := by
  unfold mxP; rw [if_pos ((valB_iff a).2 v)]; exact mx_sum v _ (Nat.le_refl _)
theorem my_bd {a : List Pt} (v : Val a) : -3200000000 ≤ myP a ∧ myP a ≤ 3200000000 := by
  unfold myP; rw [if_pos ((valB_iff a).2 v)]; exact my_sum v _ (Nat.le_refl _)
theorem mul_bd2 {x n : Int} (h1 : -40 ≤ x) (h2 : x ≤ 40) (h3 : -3200000000 ≤ n) (h4 : n ≤ 3200000000) : -400000000000 ≤ 3 * x * n ∧ 3 * x * n ≤ 400000000000 := by
  have e3 : 3 * x * n = 3 * (x * n) := Int.mul_assoc _ _ _
  rw [e3]
  have h5 : -(40 * 3200000000) ≤ x * n ∧ x * n ≤ 40 * 3200000000 := by
    rcases Int.le_total 0 x with h | h <;> rcases Int.le_total 0 n with k | k
    · have a := Int.mul_le_mul h2 h4 k (by omega); have b := Int.mul_nonneg h k; omega
    · have a := Int.mul_le_mul h2 (by omega : -n ≤ 3200000000) (by omega) (by omega); have b := Int.mul_nonneg h (by omega : 0 ≤ -n); rw [Int.mul_neg] at a b; omega
    · have a := Int.mul_le_mul (by omega : -x ≤ 40) h4 k (by omega); have b := Int.mul_nonneg (by omega : 0 ≤ -x) k; rw [Int.neg_mul] at a b; omega
    · have a := Int.mul_le_mul (by omega : -x ≤ 40) (by omega : -n ≤ 3200000000) (by omega) (by omega); have b := Int.mul_nonneg (by omega : 0 ≤ -x) (by omega : 0 ≤ -n); rw [Int.neg_mul_neg] at a b; omega
  omega
theorem side_open (o : Option (Nat × Nat)) : ∃ (i k : Int) (f : Bool), sideV o = .tuple #[.int .i64 i, .int .i64 k, .bool f] := by
  rcases o with _ | ⟨i, k⟩
  · exact ⟨_, _, _, rfl⟩
  · exact ⟨_, _, _, rfl⟩
set_option maxRecDepth 100000 in
set_option maxHeartbeats 1000000 in
theorem moves_w (x y : List Pt) (hx : (x.length : Int) ≤ 9223372036854775807) (hy : (y.length : Int) ≤ 9223372036854775807) (how dx dy : Int) (i0 : I64 how) (i1 : I64 dx) (i2 : I64 dy) (v1 v2 : Value) (w : World) (h1 : PtsAt w v1 x) (h2 : PtsAt w v2 y) :
    Calls Try.prog 8 #[v1, v2, .int .i64 how, .int .i64 dx, .int .i64 dy] w fun e w' => e = .returned (.bool true) ∧ Below w.heap.size w w' := by
  have HPR := Lib.hid (fun w1 (hB : Below w.heap.size w w1) => pair_w x y hx hy how i0 v1 v2 w1 (h1.via hB) (h2.via hB))
  have HK1 := Lib.hid (fun w1 => pickL_w dx 81 i1 (by omega) (by omega) w1)
  have HK2 := Lib.hid (fun w1 => pickL_w dy 81 i2 (by omega) (by omega) w1)
  have b1 := pkN_in (c := dx) (n := 81) (by omega)
  have b2 := pkN_in (c := dy) (n := 81) (by omega)
  obtain ⟨⟨a1, c1, rfl, _, _, _⟩, _⟩ := h1
  obtain ⟨⟨a2, c2, rfl, _, _, _⟩, _⟩ := h2
  clear hx hy i0 i1 i2
  generalize x.length = xn at *
  generalize y.length = yn at *
  generalize pkN dx 81 = px at *
  generalize pkN dy 81 = py at *
  obtain ⟨b1a, b1b⟩ := b1
  obtain ⟨b2a, b2b⟩ := b2
  have hwx : IntKind.i64.wrap (px - 40) = px - 40 := IntWalk.i64_in _ (by omega)
  have hwy : IntKind.i64.wrap (py - 40) = py - 40 := IntWalk.i64_in _ (by omega)
  go_enter Try.func8, Try.ntmps8
  go_wp2_with fail
  refine (sane_w _).mono ?_
  rintro e w1 ⟨rfl, hB1⟩
  go_wp2_with fail
  refine (HPR.out _ hB1).mono ?_
  rintro e w2 ⟨a, b, va, vb, rfl, hva, hvb, hra, hrb, hB2⟩
  obtain ⟨ga, oa, ca, na, rfl, hPA⟩ := poly_of hra hva
  obtain ⟨gb, ob, cb, nb, rfl, hPB⟩ := poly_of hrb hvb
  have HA := Lib.hid hPA
  have HB := Lib.hid hPB
  have HBW := Lib.hid (belowStep hB1 hB2)
  clear hB1 hB2 hra hrb hva hvb hPA hPB HPR
  go_wp2_with fail
  refine (HK1.out _).mono ?_
  rintro e u ⟨rfl, rfl⟩
  go_wp2_with fail
  refine (HK2.out _).mono ?_
  rintro e u ⟨rfl, rfl⟩
  obtain ⟨X, hX⟩ : ∃ X, X = px - 40 := ⟨_, rfl⟩
  obtain ⟨Y, hY⟩ : ∃ Y, Y = py - 40 := ⟨_, rfl⟩
  have hX1 : -40 ≤ X := by omega
  have hX2 : X ≤ 40 := by omega
  have hY1 : -40 ≤ Y := by omega
  have hY2 : Y ≤ 40 := by omega
  rw [← hX] at hwx
  rw [← hY] at hwy
  have HMA := Lib.hid (fun w1 (hB : Below w2.heap.size w2 w1) => moved_p a HA.out.v X Y ⟨by omega, by omega⟩ ⟨by omega, by omega⟩ _ w1 (HA.out.at_.via hB))
  have HMB := Lib.hid (fun w1 (hB : Below w2.heap.size w2 w1) => moved_p b HB.out.v X Y ⟨by omega, by omega⟩ ⟨by omega, by omega⟩ _ w1 (HB.out.at_.via hB))
  clear HK1 HK2 b1a b1b b2a b2b
  go_wp2_with fail
  rw [← hX, ← hY]
  refine (HMA.out _ (Below.refl _ _)).mono ?_
  rintro e w3 ⟨rc, ee, rfl, hmc, hB3⟩
  go_wp2_with fail
  rw [← hX, ← hY]
  refine (HMB.out _ hB3).mono ?_
  rintro e w4 ⟨rd, ef, rfl, hmd, hB4⟩
  have HMC := Lib.hid (show MovedP a X Y w4 rc ee by
    rcases hmc with ⟨h1, h2, h3⟩ | h
    · exact .inl ⟨h1, h2, h3.via hB4⟩
    · exact .inr h)
  have HMD := Lib.hid hmd
  have HB4 := Lib.hid (belowStep hB3 hB4)
  clear hmc hmd hB3 hB4 HMA HMB
  have HA4 := Lib.hid (HA.out.via HB4.out)
  have HB4' := Lib.hid (HB.out.via HB4.out)
  have HNN := Lib.hid HA.out.hn
  have hbd := HA.out.bd
  obtain ⟨hn3, hn8⟩ := hbd
  have hn8b : (na : Int) ≤ 8 := by omega
  go_wp2_with fail
  rw [← hX, ← hY]
  clear hX hY
  go_loopw [18, 19] (fun s i wr => ∃ k : Nat, k ≤ na ∧ i = .int .i64 k ∧ s = .bool (offB a X Y k) ∧ Below w4.heap.size w4 wr) (fun _ i _ => na - (intOf i).toNat)
  case atStart => exact ⟨0, by omega, rfl, rfl, Below.refl _ _⟩
  case round =>
    obtain ⟨k, hk, rfl, rfl, hB⟩ := hrel
    have HBr := Lib.hid hB
    clear hB
    by_cases hlt : k < na
    · have hlt' : (k : Int) < na := by omega
      obtain ⟨c0, c1⟩ := (HA4.out.via HBr.out).cells hlt
      have hon := HA.out.v.on k (by rw [← HNN.out]; exact hlt)
      have HS : Hid (offB a X Y (k + 1) = (offB a X Y k || !onB (mv X Y (vx a k)))) := Lib.hid rfl
      obtain ⟨o1, o2, o3, o4⟩ := hon
      generalize vx a k = p at *
      obtain ⟨p1, p2⟩ := p
      dsimp only at c0 c1 o1 o2 o3 o4
      have hmv : mv X Y (p1, p2) = (p1 + X, p2 + Y) := rfl
      rw [hmv] at HS
      clear hmv
      have q1 : IntKind.i64.wrap (p1 + X) = p1 + X := IntWalk.i64_in _ (by omega)
      have q2 : IntKind.i64.wrap (p2 + Y) = p2 + Y := IntWalk.i64_in _ (by omega)
      rcases hl : offB a X Y k with _ | _
      · rw [hl, Bool.false_or] at HS
        clear hl
        go_wp2_with fail
        refine (wpIn_wide (n := 5)).1 ?_
        refine wpIn_region_T (fun w' => Below wr.drew.heap.size wr.drew w') 16 (by kernel_rfl) ?_
        have hd : Below wr.heap.size wr wr.drew := (Below.refl _ _).drew
        generalize wr.drew = wd at *
        have c0 := keptBelow hd c0
        have c1 := keptBelow hd c1
        refine wpT_tk 0 77 (v := ?_) (Below.refl _ _) rfl rfl (by rfl) (hy := fun w hw => ?_) (h := ?_)
        rotate_left
        · go_simp; with_reducible rfl
        try simp only [Act.put, List.setIfInBounds_toArray, List.set_cons_zero, List.set_cons_succ]
        refine wpT_tk 1 78 (v := ?_) (Below.refl _ _) rfl rfl (by rfl) (hy := fun w hw => ?_) (h := ?_)
        rotate_left
        · go_simp; with_reducible rfl
        try simp only [Act.put, List.setIfInBounds_toArray, List.set_cons_zero, List.set_cons_succ]
        refine wpT_tk 2 79 (v := ?_) (Below.refl _ _) rfl rfl (by rfl) (hy := fun w hw => ?_) (h := ?_)
        rotate_left
        · go_simp; with_reducible rfl
        try simp only [Act.put, List.setIfInBounds_toArray, List.set_cons_zero, List.set_cons_succ]
        refine wpT_tk 3 80 (v := ?_) (Below.refl _ _) rfl rfl (by rfl) (hy := fun w hw => ?_) (h := ?_)
        rotate_left
        · go_simp; with_reducible rfl
        try simp only [Act.put, List.setIfInBounds_toArray, List.set_cons_zero, List.set_cons_succ]
        refine wpT_tk 4 81 (v := ?_) (Below.refl _ _) rfl rfl (by rfl) (hy := fun w hw => ?_) (h := ?_)
        rotate_left
        · go_simp; with_reducible rfl
        try simp only [Act.put, List.setIfInBounds_toArray, List.set_cons_zero, List.set_cons_succ]
        refine wpT_tk 5 82 (v := ?_) (Below.refl _ _) rfl rfl (by rfl) (hy := fun w hw => ?_) (h := ?_)
        rotate_left
        · go_simp; with_reducible rfl
        try simp only [Act.put, List.setIfInBounds_toArray, List.set_cons_zero, List.set_cons_succ]
        refine wpT_tk 6 83 (v := ?_) (Below.refl _ _) rfl rfl (by rfl) (hy := fun w hw => ?_) (h := ?_)
        rotate_left
        · have c0 := keptBelow hw c0; go_simp; with_reducible rfl
        try simp only [Act.put, List.setIfInBounds_toArray, List.set_cons_zero, List.set_cons_succ]
        refine wpT_tk 7 84 (v := ?_) (Below.refl _ _) rfl rfl (by rfl) (hy := fun w hw => ?_) (h := ?_)
        rotate_left
        · go_simp; with_reducible rfl
        try simp only [Act.put, List.setIfInBounds_toArray, List.set_cons_zero, List.set_cons_succ]
        refine wpT_tk 8 85 (v := ?_) (Below.refl _ _) rfl rfl (by rfl) (hy := fun w hw => ?_) (h := ?_)
        rotate_left
        · go_simp; with_reducible rfl
        try simp only [Act.put, List.setIfInBounds_toArray, List.set_cons_zero, List.set_cons_succ]
        refine wpT_tk 9 86 (v := ?_) (Below.refl _ _) rfl rfl (by rfl) (hy := fun w hw => ?_) (h := ?_)
        rotate_left
        · go_simp; with_reducible rfl
        try simp only [Act.put, List.setIfInBounds_toArray, List.set_cons_zero, List.set_cons_succ]
        refine wpT_tk 10 87 (v := ?_) (Below.refl _ _) rfl rfl (by rfl) (hy := fun w hw => ?_) (h := ?_)
        rotate_left
        · go_simp; with_reducible rfl
        try simp only [Act.put, List.setIfInBounds_toArray, List.set_cons_zero, List.set_cons_succ]
        refine wpT_tk 11 88 (v := ?_) (Below.refl _ _) rfl rfl (by rfl) (hy := fun w hw => ?_) (h := ?_)
        rotate_left
        · go_simp; with_reducible rfl
        try simp only [Act.put, List.setIfInBounds_toArray, List.set_cons_zero, List.set_cons_succ]
        refine wpT_tk 12 89 (v := ?_) (Below.refl _ _) rfl rfl (by rfl) (hy := fun w hw => ?_) (h := ?_)
        rotate_left
        · go_simp; with_reducible rfl
        try simp only [Act.put, List.setIfInBounds_toArray, List.set_cons_zero, List.set_cons_succ]
        refine wpT_tk 13 90 (v := ?_) (Below.refl _ _) rfl rfl (by rfl) (hy := fun w hw => ?_) (h := ?_)
        rotate_left
        · have c1 := keptBelow hw c1; go_simp; with_reducible rfl
        try simp only [Act.put, List.setIfInBounds_toArray, List.set_cons_zero, List.set_cons_succ]
        refine wpT_tk 14 91 (v := ?_) (Below.refl _ _) rfl rfl (by rfl) (hy := fun w hw => ?_) (h := ?_)
        rotate_left
        · go_simp; with_reducible rfl
        try simp only [Act.put, List.setIfInBounds_toArray, List.set_cons_zero, List.set_cons_succ]
        refine wpT_tk 15 92 (v := ?_) (Below.refl _ _) rfl rfl (by rfl) (hy := fun w hw => ?_) (h := ?_)
        rotate_left
        · go_simp; with_reducible rfl
        try simp only [Act.put, List.setIfInBounds_toArray, List.set_cons_zero, List.set_cons_succ]
        refine wpT_oneW 16 rfl (by rfl) (by kernel_rfl) ?_
        go_simp
        refine ⟨trivial, ?_⟩
        refine (callsIn_wide.2 (sn_at _ _ _)).mono ?_
        rintro e u3 ⟨rfl, hB3⟩
        refine wpT_oneW 17 rfl (by rfl) (by kernel_rfl) ?_
        go_simp
        refine ⟨trivial, ?_⟩
        refine (callsIn_wide.2 (onMapR_w _ _ _)).mono ?_
        rintro e u4 ⟨rfl, hB4⟩
        have HB5 := Lib.hid (belowStep HBr.out (belowStep hd (belowStep hB3 hB4)))
        clear hB3 hB4
        refine wpT_oneW 18 rfl (by rfl) (by kernel_rfl) ?_
        go_simp
        refine wpT_oneW 19 rfl (by rfl) (by kernel_rfl) ?_
        go_simp
        refine wpT_oneW 20 rfl (by rfl) (by kernel_rfl) ?_
        go_simp
        refine wpT_done (by kernel_rfl) ?_ _
        go_wp2_with fail
        go_roundw
        case rel => exact ⟨k + 1, by omega, by go_num, by rw [HS.out], HB5.out⟩
        case measure => simp [intOf]; omega
      · rw [hl, Bool.true_or] at HS
        clear hl
        go_wp2_with fail
        go_quiet (fail)
        go_wp2_with fail
        go_roundw
        case rel => exact ⟨k + 1, by omega, by go_num, by rw [HS.out], below_drewN HBr.out _⟩
        case measure => simp [intOf]; omega
    · obtain rfl : na = k := by omega
      have HBW2 := Lib.hid (belowStep HBW.out (belowStep HB4.out HBr.out))
      have hoe : offB a X Y na = offB a X Y a.length := by rw [HNN.out]
      rw [hoe]
      rcases HMC.out with ⟨hoff, rfl, hrc⟩ | ⟨hoff, rfl, rfl⟩
      · rw [hoff]
        clear hoe
        rcases HMD.out with ⟨hoffb, rfl, hrd⟩ | ⟨_, rfl, rfl⟩
        · have HFA := Lib.hid (mov_f HA.out.v hoff)
          have HFB := Lib.hid (mov_f HB.out.v hoffb)
          have HSI := Lib.hid (side_shf HA.out.v HB.out.v HFA.out.v HFB.out.v)
          have HOV := Lib.hid (over_shf HA.out.v HB.out.v HFA.out.v HFB.out.v)
          have HSE := Lib.hid (seam_shf HA.out.v HB.out.v HFA.out.v HFB.out.v)
          have HAr := Lib.hid (HA4.out.via HBr.out)
          have HBr2 := Lib.hid (HB4'.out.via HBr.out)
          have hrc := hrc.via HBr.out
          have hrd := hrd.via (belowStep HB4.out HBr.out |> fun _ => HBr.out)
          clear hoff hoffb HMC HMD HA4 HB4' HB4 HBr
          generalize shf a X Y = c at *
          generalize shf b X Y = d at *
          obtain ⟨gc, oc, cc, nc, rfl, hPC⟩ := poly_of hrc HFA.out.v
          obtain ⟨gd, od, cd, nd, rfl, hPD⟩ := poly_of hrd HFB.out.v
          have HCr := Lib.hid hPC
          have HDr := Lib.hid hPD
          clear hrc hrd hPC hPD
          have KM := Lib.hid (fun w1 (hB : Below wr.heap.size wr w1) => move_w c HCr.out.len (-X) (-Y) ⟨by omega, by omega⟩ ⟨by omega, by omega⟩ _ w1 (HCr.out.at_.via hB))
          rw [HFA.out.back] at KM
          have KMA := Lib.hid (fun w1 (hB : Below wr.heap.size wr w1) => moments_w a HAr.out.len _ w1 (HAr.out.at_.via hB))
          have KMC := Lib.hid (fun w1 (hB : Below wr.heap.size wr w1) => moments_w c HCr.out.len _ w1 (HCr.out.at_.via hB))
          have KLA := Lib.hid (fun w1 (hB : Below wr.heap.size wr w1) => lattice_w a HAr.out.len _ w1 (HAr.out.at_.via hB))
          have KLC := Lib.hid (fun w1 (hB : Below wr.heap.size wr w1) => lattice_w c HCr.out.len _ w1 (HCr.out.at_.via hB))
          have KAA := Lib.hid (fun w1 (hB : Below wr.heap.size wr w1) => area_w a HAr.out.len _ w1 (HAr.out.at_.via hB))
          have KAC := Lib.hid (fun w1 (hB : Below wr.heap.size wr w1) => area_w c HCr.out.len _ w1 (HCr.out.at_.via hB))
          have KSA := Lib.hid (fun w1 (hB : Below wr.heap.size wr w1) => seam_w a b HAr.out.len HBr2.out.len _ _ w1 (HAr.out.at_.via hB) (HBr2.out.at_.via hB))
          have KSC := Lib.hid (fun w1 (hB : Below wr.heap.size wr w1) => seam_w c d HCr.out.len HDr.out.len _ _ w1 (HCr.out.at_.via hB) (HDr.out.at_.via hB))
          have KIA := Lib.hid (fun w1 (hB : Below wr.heap.size wr w1) => side_w a b HAr.out.len HBr2.out.len _ _ w1 (HAr.out.at_.via hB) (HBr2.out.at_.via hB))
          have KIC := Lib.hid (fun w1 (hB : Below wr.heap.size wr w1) => side_w c d HCr.out.len HDr.out.len _ _ w1 (HCr.out.at_.via hB) (HDr.out.at_.via hB))
          have KOA := Lib.hid (fun w1 (hB : Below wr.heap.size wr w1) => overlap_w a b HAr.out.len HBr2.out.len _ _ w1 (HAr.out.at_.via hB) (HBr2.out.at_.via hB))
          have KOC := Lib.hid (fun w1 (hB : Below wr.heap.size wr w1) => overlap_w c d HCr.out.len HDr.out.len _ _ w1 (HCr.out.at_.via hB) (HDr.out.at_.via hB))
          rw [HFA.out.mx, HFA.out.my] at KMC
          rw [HFA.out.inn, HFA.out.bnd] at KLC
          rw [HFA.out.area] at KAC
          rw [HSI.out] at KIC
          rw [HOV.out] at KOC
          rw [HSE.out] at KSC
          obtain ⟨sa, sb, sf, hsd⟩ := side_open (sideP a b)
          rw [hsd] at KIA KIC
          clear hsd
          have hA := area_bd HA.out.v
          have hM := mx_bd HA.out.v
          have hN := my_bd HA.out.v
          have HLA : Hid ((a.length : Int) ≤ 4611686018427387904) := Lib.hid (by have := HA.out.v.hi; omega)
          have HSM : Hid (sameB a a = true) := Lib.hid (decide_eq_true rfl)
          generalize areaP a = n at *
          generalize mxP a = mx at *
          generalize myP a = my at *
          generalize innP a = ia at *
          generalize bndP a = ba at *
          generalize overP a b = ov at *
          have hm1 := mul_bd2 hX1 hX2 hA.1 hA.2
          have hm2 := mul_bd2 hY1 hY2 hA.1 hA.2
          obtain ⟨hm1a, hm1b⟩ := hm1
          obtain ⟨hm2a, hm2b⟩ := hm2
          obtain ⟨hMa, hMb⟩ := hM
          obtain ⟨hNa, hNb⟩ := hN
          have g1 : IntKind.i64.wrap (-X) = -X := IntWalk.i64_in _ (by omega)
          have g2 : IntKind.i64.wrap (-Y) = -Y := IntWalk.i64_in _ (by omega)
          have g3 : IntKind.i64.wrap (3 * X) = 3 * X := IntWalk.i64_in _ (by omega)
          have g4 : IntKind.i64.wrap (3 * Y) = 3 * Y := IntWalk.i64_in _ (by omega)
          have g5 : IntKind.i64.wrap (3 * X * n) = 3 * X * n := IntWalk.i64_in _ (by omega)
          have g6 : IntKind.i64.wrap (3 * Y * n) = 3 * Y * n := IntWalk.i64_in _ (by omega)
          have g7 : IntKind.i64.wrap (mx + 3 * X * n) = mx + 3 * X * n := IntWalk.i64_in _ (by omega)
          have g8 : IntKind.i64.wrap (my + 3 * Y * n) = my + 3 * Y * n := IntWalk.i64_in _ (by omega)
          clear hm1a hm1b hm2a hm2b hMa hMb hNa hNb hA HFA HFB HSI HOV HSE
          go_wp2_with fail
          refine (KM.out _ (Below.refl _ _)).mono ?_
          rintro e z0 (⟨l0, r0, h0, rfl, hr0, hB⟩ | ⟨h0, _⟩)
          rotate_left
          · cases h0
          cases h0
          have HC0 := Lib.hid hB
          have HRB := Lib.hid hr0
          clear hB hr0
          go_wp2_with fail
          refine (KMA.out _ HC0.out).mono ?_
          rintro e z1 ⟨rfl, hB⟩
          have HC1 := Lib.hid (belowStep HC0.out hB)
          have HRB := Lib.hid (HRB.out.via hB)
          clear hB
          go_wp2_with fail
          refine (KMC.out _ HC1.out).mono ?_
          rintro e z2 ⟨rfl, hB⟩
          have HC2 := Lib.hid (belowStep HC1.out hB)
          have HRB := Lib.hid (HRB.out.via hB)
          clear hB
          go_wp2_with fail
          refine (KLA.out _ HC2.out).mono ?_
          rintro e z3 ⟨rfl, hB⟩
          have HC3 := Lib.hid (belowStep HC2.out hB)
          have HRB := Lib.hid (HRB.out.via hB)
          clear hB
          go_wp2_with fail
          refine (KLC.out _ HC3.out).mono ?_
          rintro e z4 ⟨rfl, hB⟩
          have HC4 := Lib.hid (belowStep HC3.out hB)
          have HRB := Lib.hid (HRB.out.via hB)
          clear hB
          go_wp2_with fail
          refine (KAA.out _ HC4.out).mono ?_
          rintro e z5 ⟨rfl, hB⟩
          have HC5 := Lib.hid (belowStep HC4.out hB)
          have HRB := Lib.hid (HRB.out.via hB)
          clear hB
          go_wp2_with fail
          refine (same_w a a HLA.out _ _ z5 HRB.out (HAr.out.at_.via HC5.out)).mono ?_
          rintro e z6 ⟨rfl, hB⟩
          rw [HSM.out]
          have HC6 := Lib.hid (belowStep HC5.out hB)
          clear hB
          go_wp2_with fail
          refine (KAC.out _ HC6.out).mono ?_
          rintro e z7 ⟨rfl, hB⟩
          have HC7 := Lib.hid (belowStep HC6.out hB)
          clear hB
          have HON := Lib.hid (fun P Q (h : seamP a b = some (P, Q)) => seam_ons HA.out.v HB.out.v h)
          clear KM KMA KMC KLA KLC KAA HRB
          go_upto_region 26 with fail
          clear KAC g5 g6 g7 g8
          rcases hsm : seamP a b with _ | ⟨⟨P1, P2⟩, ⟨Q1, Q2⟩⟩
          · rw [hsm] at KSA KSC
            clear hsm HON
            unfold seamV sv at KSA KSC
            dsimp only [Option.map] at KSA KSC
            go_wp2_with fail
            refine (KSA.out _ HC7.out).mono ?_
            rintro e z8 ⟨rfl, hB⟩
            have HC8 := Lib.hid (belowStep HC7.out hB)
            clear hB
            have HX1 := Lib.hid (heap_alloc_new z8 (.cells #[.int .i64 0, .int .i64 0, .int .i64 0, .int .i64 0] 48))
            have HC9 := Lib.hid (belowStep HC8.out (alloc_below z8 (.cells #[.int .i64 0, .int .i64 0, .int .i64 0, .int .i64 0] 48)))
            go_wp2_with fail
            refine (KSC.out _ HC9.out).mono ?_
            rintro e z10 ⟨rfl, hB⟩
            have HC10 := Lib.hid (belowStep HC9.out hB)
            have HX1 := Lib.hid (heap_below hB HX1.out)
            clear hB
            have hA := alloc_below z10 (.cells #[.int .i64 0, .int .i64 0, .int .i64 0, .int .i64 0] 48)
            have HX2 := Lib.hid (heap_alloc_new z10 (.cells #[.int .i64 0, .int .i64 0, .int .i64 0, .int .i64 0] 48))
            have HC11 := Lib.hid (belowStep HC10.out hA)
            have HX1 := Lib.hid (heap_below hA HX1.out)
            clear hA
            go_wp2_with fail
            refine (KIA.out _ HC11.out).mono ?_
            rintro e z12 ⟨rfl, hB⟩
            have HC12 := Lib.hid (belowStep HC11.out hB)
            have HX1 := Lib.hid (heap_below hB HX1.out)
            have HX2 := Lib.hid (heap_below hB HX2.out)
            clear hB
            go_wp2_with fail
            refine (KIC.out _ HC12.out).mono ?_
            rintro e z13 ⟨rfl, hB⟩
            have HC13 := Lib.hid (belowStep HC12.out hB)
            have HX1 := Lib.hid (heap_below hB HX1.out)
            have HX2 := Lib.hid (heap_below hB HX2.out)
            clear hB
            go_wp2_with fail
            refine (KOA.out _ HC13.out).mono ?_
            rintro e z14 ⟨rfl, hB⟩
            have HC14 := Lib.hid (belowStep HC13.out hB)
            have HX1 := Lib.hid (heap_below hB HX1.out)
            have HX2 := Lib.hid (heap_below hB HX2.out)
            clear hB
            go_wp2_with fail
            refine (KOC.out _ HC14.out).mono ?_
            rintro e z15 ⟨rfl, hB⟩
            have HC15 := Lib.hid (belowStep HC14.out hB)
            have HX1 := Lib.hid (heap_below hB HX1.out)
            have HX2 := Lib.hid (heap_below hB HX2.out)
            clear hB
            go_wp2_with fail
            go_quiet (fail)
            go_wp2_with fail
            go_ret
            exact ⟨rfl, belowStep HBW2.out (below_drewN HC15.out _)⟩
          · have hon := HON.out _ _ hsm
            rw [hsm] at KSA KSC
            clear hsm HON
            obtain ⟨⟨o1, o2, o3, o4⟩, o5, o6, o7, o8⟩ := hon
            dsimp only at o1 o2 o3 o4 o5 o6 o7 o8
            unfold seamV sv at KSA KSC
            dsimp only [Option.map, mv] at KSA KSC
            go_wp2_with fail
            refine (KSA.out _ HC7.out).mono ?_
            rintro e z8 ⟨rfl, hB⟩
            have HC8 := Lib.hid (belowStep HC7.out hB)
            clear hB
            have HX1 := Lib.hid (heap_alloc_new z8 (.cells #[.int .i64 P1, .int .i64 P2, .int .i64 Q1, .int .i64 Q2] 48))
            have HC9 := Lib.hid (belowStep HC8.out (alloc_below z8 (.cells #[.int .i64 P1, .int .i64 P2, .int .i64 Q1, .int .i64 Q2] 48)))
            go_wp2_with fail
            refine (KSC.out _ HC9.out).mono ?_
            rintro e z10 ⟨rfl, hB⟩
            have HC10 := Lib.hid (belowStep HC9.out hB)
            have HX1 := Lib.hid (heap_below hB HX1.out)
            clear hB
            have hA := alloc_below z10 (.cells #[.int .i64 (P1 + X), .int .i64 (P2 + Y), .int .i64 (Q1 + X), .int .i64 (Q2 + Y)] 48)
            have HX2 := Lib.hid (heap_alloc_new z10 (.cells #[.int .i64 (P1 + X), .int .i64 (P2 + Y), .int .i64 (Q1 + X), .int .i64 (Q2 + Y)] 48))
            have HC11 := Lib.hid (belowStep HC10.out hA)
            have HX1 := Lib.hid (heap_below hA HX1.out)
            clear hA
            go_wp2_with fail
            refine (KIA.out _ HC11.out).mono ?_
            rintro e z12 ⟨rfl, hB⟩
            have HC12 := Lib.hid (belowStep HC11.out hB)
            have HX1 := Lib.hid (heap_below hB HX1.out)
            have HX2 := Lib.hid (heap_below hB HX2.out)
            clear hB
            go_wp2_with fail
            refine (KIC.out _ HC12.out).mono ?_
            rintro e z13 ⟨rfl, hB⟩
            have HC13 := Lib.hid (belowStep HC12.out hB)
            have HX1 := Lib.hid (heap_below hB HX1.out)
            have HX2 := Lib.hid (heap_below hB HX2.out)
            clear hB
            go_wp2_with fail
            refine (KOA.out _ HC13.out).mono ?_
            rintro e z14 ⟨rfl, hB⟩
            have HC14 := Lib.hid (belowStep HC13.out hB)
            have HX1 := Lib.hid (heap_below hB HX1.out)
            have HX2 := Lib.hid (heap_below hB HX2.out)
            clear hB
            go_wp2_with fail
            refine (KOC.out _ HC14.out).mono ?_
            rintro e z15 ⟨rfl, hB⟩
            have HC15 := Lib.hid (belowStep HC14.out hB)
            have HX1 := Lib.hid (heap_below hB HX1.out)
            have HX2 := Lib.hid (heap_below hB HX2.out)
            clear hB
            have r1 : IntKind.i64.wrap (P1 + X) = P1 + X := IntWalk.i64_in _ (by omega)
            have r2 : IntKind.i64.wrap (P2 + Y) = P2 + Y := IntWalk.i64_in _ (by omega)
            have r3 : IntKind.i64.wrap (Q1 + X) = Q1 + X := IntWalk.i64_in _ (by omega)
            have r4 : IntKind.i64.wrap (Q2 + Y) = Q2 + Y := IntWalk.i64_in _ (by omega)
            have x0 := cell_heap (i := 0) HX1.out rfl
            have x1 := cell_heap (i := 1) HX1.out rfl
            have x2 := cell_heap (i := 2) HX1.out rfl
            have x3 := cell_heap (i := 3) HX1.out rfl
            have y0 := cell_heap (i := 0) HX2.out rfl
            have y1 := cell_heap (i := 1) HX2.out rfl
            have y2 := cell_heap (i := 2) HX2.out rfl
            have y3 := cell_heap (i := 3) HX2.out rfl
            clear HX1 HX2
            go_wp2_with fail
            refine (wpIn_wide (n := 5)).1 ?_
            refine wpIn_region_T (fun w' => Below z15.drew.heap.size z15.drew w') 27 (by kernel_rfl) ?_
            have hd : Below z15.heap.size z15 z15.drew := (Below.refl _ _).drew
            generalize z15.drew = wd at *
            have x0 := keptBelow hd x0
            have x1 := keptBelow hd x1
            have x2 := keptBelow hd x2
            have x3 := keptBelow hd x3
            have y0 := keptBelow hd y0
            have y1 := keptBelow hd y1
            have y2 := keptBelow hd y2
            have y3 := keptBelow hd y3
            refine wpT_tk 0 244 (v := ?_) (Below.refl _ _) rfl rfl (by rfl) (hy := fun w hw => ?_) (h := ?_)
            rotate_left
            · go_simp; with_reducible rfl
            try simp only [Act.put, List.setIfInBounds_toArray, List.set_cons_zero, List.set_cons_succ]
            refine wpT_tk 1 245 (v := ?_) (Below.refl _ _) rfl rfl (by rfl) (hy := fun w hw => ?_) (h := ?_)
            rotate_left
            · go_simp; with_reducible rfl
            try simp only [Act.put, List.setIfInBounds_toArray, List.set_cons_zero, List.set_cons_succ]
            refine wpT_tk 2 246 (v := ?_) (Below.refl _ _) rfl rfl (by rfl) (hy := fun w hw => ?_) (h := ?_)
            rotate_left
            · go_simp; with_reducible rfl
            try simp only [Act.put, List.setIfInBounds_toArray, List.set_cons_zero, List.set_cons_succ]
            refine wpT_tk 3 247 (v := ?_) (Below.refl _ _) rfl rfl (by rfl) (hy := fun w hw => ?_) (h := ?_)
            rotate_left
            · have y0 := keptBelow hw y0; have y1 := keptBelow hw y1; have y2 := keptBelow hw y2; have y3 := keptBelow hw y3; go_simp; with_reducible rfl
            try simp only [Act.put, List.setIfInBounds_toArray, List.set_cons_zero, List.set_cons_succ]
            refine wpT_tk 4 248 (v := ?_) (Below.refl _ _) rfl rfl (by rfl) (hy := fun w hw => ?_) (h := ?_)
            rotate_left
            · go_simp; with_reducible rfl
            try simp only [Act.put, List.setIfInBounds_toArray, List.set_cons_zero, List.set_cons_succ]
            refine wpT_tk 5 249 (v := ?_) (Below.refl _ _) rfl rfl (by rfl) (hy := fun w hw => ?_) (h := ?_)
            rotate_left
            · go_simp; with_reducible rfl
            try simp only [Act.put, List.setIfInBounds_toArray, List.set_cons_zero, List.set_cons_succ]
            refine wpT_tk 6 250 (v := ?_) (Below.refl _ _) rfl rfl (by rfl) (hy := fun w hw => ?_) (h := ?_)
            rotate_left
            · have x0 := keptBelow hw x0; go_simp; with_reducible rfl
            try simp only [Act.put, List.setIfInBounds_toArray, List.set_cons_zero, List.set_cons_succ]
            refine wpT_tk 7 251 (v := ?_) (Below.refl _ _) rfl rfl (by rfl) (hy := fun w hw => ?_) (h := ?_)
            rotate_left
            · go_simp; with_reducible rfl
            try simp only [Act.put, List.setIfInBounds_toArray, List.set_cons_zero, List.set_cons_succ]
            refine wpT_tk 8 252 (v := ?_) (Below.refl _ _) rfl rfl (by rfl) (hy := fun w hw => ?_) (h := ?_)
            rotate_left
            · go_simp; with_reducible rfl
            try simp only [Act.put, List.setIfInBounds_toArray, List.set_cons_zero, List.set_cons_succ]
            refine wpT_tk 9 253 (v := ?_) (Below.refl _ _) rfl rfl (by rfl) (hy := fun w hw => ?_) (h := ?_)
            rotate_left
            · go_simp; with_reducible rfl
            try simp only [Act.put, List.setIfInBounds_toArray, List.set_cons_zero, List.set_cons_succ]
            refine wpT_tk 10 254 (v := ?_) (Below.refl _ _) rfl rfl (by rfl) (hy := fun w hw => ?_) (h := ?_)
            rotate_left
            · go_simp; with_reducible rfl
            try simp only [Act.put, List.setIfInBounds_toArray, List.set_cons_zero, List.set_cons_succ]
            refine wpT_tk 11 255 (v := ?_) (Below.refl _ _) rfl rfl (by rfl) (hy := fun w hw => ?_) (h := ?_)
            rotate_left
            · have x1 := keptBelow hw x1; go_simp; with_reducible rfl
            try simp only [Act.put, List.setIfInBounds_toArray, List.set_cons_zero, List.set_cons_succ]
            refine wpT_tk 12 256 (v := ?_) (Below.refl _ _) rfl rfl (by rfl) (hy := fun w hw => ?_) (h := ?_)
            rotate_left
            · go_simp; with_reducible rfl
            try simp only [Act.put, List.setIfInBounds_toArray, List.set_cons_zero, List.set_cons_succ]
            refine wpT_tk 13 257 (v := ?_) (Below.refl _ _) rfl rfl (by rfl) (hy := fun w hw => ?_) (h := ?_)
            rotate_left
            · go_simp; with_reducible rfl
            try simp only [Act.put, List.setIfInBounds_toArray, List.set_cons_zero, List.set_cons_succ]
            refine wpT_tk 15 259 (v := ?_) (Below.refl _ _) rfl rfl (by rfl) (hy := fun w hw => ?_) (h := ?_)
            rotate_left
            · go_simp; with_reducible rfl
            try simp only [Act.put, List.setIfInBounds_toArray, List.set_cons_zero, List.set_cons_succ]
            refine wpT_tk 16 260 (v := ?_) (Below.refl _ _) rfl rfl (by rfl) (hy := fun w hw => ?_) (h := ?_)
            rotate_left
            · go_simp; with_reducible rfl
            try simp only [Act.put, List.setIfInBounds_toArray, List.set_cons_zero, List.set_cons_succ]
            refine wpT_tk 17 261 (v := ?_) (Below.refl _ _) rfl rfl (by rfl) (hy := fun w hw => ?_) (h := ?_)
            rotate_left
            · have x2 := keptBelow hw x2; go_simp; with_reducible rfl
            try simp only [Act.put, List.setIfInBounds_toArray, List.set_cons_zero, List.set_cons_succ]
            refine wpT_tk 18 262 (v := ?_) (Below.refl _ _) rfl rfl (by rfl) (hy := fun w hw => ?_) (h := ?_)
            rotate_left
            · go_simp; with_reducible rfl
            try simp only [Act.put, List.setIfInBounds_toArray, List.set_cons_zero, List.set_cons_succ]
            refine wpT_tk 19 263 (v := ?_) (Below.refl _ _) rfl rfl (by rfl) (hy := fun w hw => ?_) (h := ?_)
            rotate_left
            · go_simp; with_reducible rfl
            try simp only [Act.put, List.setIfInBounds_toArray, List.set_cons_zero, List.set_cons_succ]
            refine wpT_tk 20 264 (v := ?_) (Below.refl _ _) rfl rfl (by rfl) (hy := fun w hw => ?_) (h := ?_)
            rotate_left
            · go_simp; with_reducible rfl
            try simp only [Act.put, List.setIfInBounds_toArray, List.set_cons_zero, List.set_cons_succ]
            refine wpT_tk 21 265 (v := ?_) (Below.refl _ _) rfl rfl (by rfl) (hy := fun w hw => ?_) (h := ?_)
            rotate_left
            · go_simp; with_reducible rfl
            try simp only [Act.put, List.setIfInBounds_toArray, List.set_cons_zero, List.set_cons_succ]
            refine wpT_tk 22 266 (v := ?_) (Below.refl _ _) rfl rfl (by rfl) (hy := fun w hw => ?_) (h := ?_)
            rotate_left
            · have x3 := keptBelow hw x3; go_simp; with_reducible rfl
            try simp only [Act.put, List.setIfInBounds_toArray, List.set_cons_zero, List.set_cons_succ]
            refine wpT_tk 23 267 (v := ?_) (Below.refl _ _) rfl rfl (by rfl) (hy := fun w hw => ?_) (h := ?_)
            rotate_left
            · go_simp; with_reducible rfl
            try simp only [Act.put, List.setIfInBounds_toArray, List.set_cons_zero, List.set_cons_succ]
            refine wpT_tk 24 268 (v := ?_) (Below.refl _ _) rfl rfl (by rfl) (hy := fun w hw => ?_) (h := ?_)
            rotate_left
            · go_simp; with_reducible rfl
            try simp only [Act.put, List.setIfInBounds_toArray, List.set_cons_zero, List.set_cons_succ]
            refine wpT_oneW 14 rfl (by rfl) (by kernel_rfl) ?_
            go_simp
            refine ⟨trivial, ?_⟩
            refine (callsIn_wide.2 (sn_at _ _ _)).mono ?_
            rintro e u3 ⟨rfl, hB3⟩
            refine ⟨hB3, ?_⟩
            refine wpT_oneW 25 rfl (by rfl) (by kernel_rfl) ?_
            go_simp
            refine ⟨trivial, ?_⟩
            refine (callsIn_wide.2 (sn_at _ _ _)).mono ?_
            rintro e u4 ⟨rfl, hB4⟩
            refine ⟨belowStep hB3 hB4, ?_⟩
            have HC16 := Lib.hid (belowStep HC15.out (belowStep hd (belowStep hB3 hB4)))
            have HSS := Lib.hid (belowStep hB3 hB4)
            clear hB3 hB4
            refine wpT_oneW 26 rfl (by rfl) (by kernel_rfl) ?_
            go_simp
            refine ⟨HSS.out, ?_⟩
            refine wpT_oneW 27 rfl (by rfl) (by kernel_rfl) ?_
            go_simp
            refine wpT_oneW 28 rfl (by rfl) (by kernel_rfl) ?_
            go_simp
            refine wpT_oneW 29 rfl (by rfl) (by kernel_rfl) ?_
            go_simp
            refine wpT_done (by kernel_rfl) ?_ _
            go_wp2_with fail
            go_ret
            exact ⟨rfl, belowStep HBW2.out HC16.out⟩
        · go_wp2_with fail
          go_ret
          exact ⟨rfl, HBW2.out⟩
      · rw [hoff]
        clear hoff HMC hoe
        go_wp2_with fail
        go_ret
        exact ⟨rfl, HBW2.out⟩
end Go.Proofs.Ytliligehofjegaa
