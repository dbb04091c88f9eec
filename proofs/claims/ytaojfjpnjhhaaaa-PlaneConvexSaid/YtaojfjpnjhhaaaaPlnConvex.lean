/- The walk of PlaneConvex. -/
import Derived.Test.YtaojfjpnjhhaaaaPlnSane
import Derived.Test.YtaojfjpnjhhaaaaPlnConvexP
import Derived.Deep.DeepCutAuto
namespace Go.Proofs.Ytaojfjpnjhhaaaa
open Go.RowKit Go.Shelf Pln

theorem in_w (l : List Pt) (v : Val l) (p1 p2 : Int) (h : I64 p1) (h2 : I64 p2) (va : Value) (w : World) (hv : PtsAt w va l) : Calls Try.prog 17 #[va, .agg #[.int .i64 p1, .int .i64 p2]] w fun e w' => e = .returned (.int .i64 (insP l (p1, p2))) ∧ Below w.heap.size w w' :=
  inside_w l (by have := v.hi; unfold Len; omega) (p1, p2) ⟨h, h2⟩ va w hv
theorem pk_on {a b : Int} : On (pkN a 41, pkN b 41) := by
  have h1 := pkN_in (c := a) (n := 41) (by omega)
  have h2 := pkN_in (c := b) (n := 41) (by omega)
  exact ⟨h1.1, by show pkN a 41 ≤ 40; omega, h2.1, by show pkN b 41 ≤ 40; omega⟩
set_option maxRecDepth 100000 in
set_option maxHeartbeats 1000000 in
theorem convex_w (x : List Pt) (hx : (x.length : Int) ≤ 9223372036854775807) (px py qx qy : Int) (i1 : I64 px) (i2 : I64 py) (i3 : I64 qx) (i4 : I64 qy) (v : Value) (w : World) (hv : PtsAt w v x) :
    Calls Try.prog 9 #[v, .int .i64 px, .int .i64 py, .int .i64 qx, .int .i64 qy] w fun e w' => e = .returned (.bool true) ∧ Below w.heap.size w w' := by
  have HMD := Lib.hid (fun w1 (hB : Below w.heap.size w w1) => made_w x hx 0 40 (by omega) (by omega) (by omega) v w1 (hv.via hB))
  have HVL := Lib.hid (madeP_val (low := 0) (high := 40) (by omega) (by omega) (by omega) x)
  have HK1 := Lib.hid (fun w1 => pickL_w px 41 i1 (by omega) (by omega) w1)
  have HK2 := Lib.hid (fun w1 => pickL_w py 41 i2 (by omega) (by omega) w1)
  have HK3 := Lib.hid (fun w1 => pickL_w qx 41 i3 (by omega) (by omega) w1)
  have HK4 := Lib.hid (fun w1 => pickL_w qy 41 i4 (by omega) (by omega) w1)
  have HOP := Lib.hid (pk_on (a := px) (b := py))
  have HOQ := Lib.hid (pk_on (a := qx) (b := qy))
  obtain ⟨⟨a, c, rfl, _, _, _⟩, _⟩ := hv
  clear hx i1 i2 i3 i4
  generalize x.length = xn at *
  generalize madeP x 0 40 = l at *
  generalize pkN px 41 = p1 at *
  generalize pkN py 41 = p2 at *
  generalize pkN qx 41 = q1 at *
  generalize pkN qy 41 = q2 at *
  go_enter Try.func9, Try.ntmps9
  go_wp2_with fail
  refine (sane_w _).mono ?_
  rintro e w1 ⟨rfl, hB1⟩
  go_wp2_with fail
  refine (HMD.out _ hB1).mono ?_
  rintro e w2 ⟨r, rfl, hr, hB2⟩
  have hB := belowStep hB1 hB2
  obtain ⟨g, o, c2, rfl, hc, hc2, hcells⟩ := at_some hr (by have := HVL.out.lo; omega)
  obtain ⟨n, hn⟩ : ∃ n, n = l.length := ⟨_, rfl⟩
  rw [← hn] at hc hcells hr ⊢
  have HNN := Lib.hid hn
  have hn3 : 3 ≤ n := by have := HVL.out.lo; omega
  have hn8 : n ≤ 8 := by have := HVL.out.hi; omega
  have hnb : (n : Int) ≤ 8 := by omega
  have hn0 : 0 < n := by omega
  have HCE := Lib.hid hcells
  have HR := Lib.hid hr
  have HB := Lib.hid hB
  clear hB hB1 hB2 hn hcells hr hc hc2
  go_wp2_with fail
  refine (HK1.out _).mono ?_
  rintro e w3 ⟨rfl, rfl⟩
  go_wp2_with fail
  refine (HK2.out _).mono ?_
  rintro e w3 ⟨rfl, rfl⟩
  go_wp2_with fail
  refine (sn_at _ _ _).mono ?_
  rintro e w3 ⟨rfl, hB3⟩
  go_wp2_with fail
  refine (HK3.out _).mono ?_
  rintro e w4 ⟨rfl, rfl⟩
  go_wp2_with fail
  refine (HK4.out _).mono ?_
  rintro e w4 ⟨rfl, rfl⟩
  go_wp2_with fail
  refine (sn_at _ _ _).mono ?_
  rintro e w4 ⟨rfl, hB4⟩
  have hA4 := alloc_below w4 (.cells #[.int .i64 q1, .int .i64 q2] 26)
  have HPX := Lib.hid (((PBox.new w3 p1 p2).via hB4).via hA4)
  have HQX := Lib.hid (PBox.new w4 q1 q2)
  have hA3 := alloc_below w3 (.cells #[.int .i64 p1, .int .i64 p2] 26)
  have hBB := belowStep hB3 (belowStep hA3 (belowStep hB4 hA4))
  replace HB := Lib.hid (belowStep HB.out hBB)
  replace HR := Lib.hid (HR.out.via hBB)
  replace HCE := Lib.hid (at_cells HR.out).2.2.2
  clear hA4 hA3 hB3 hB4 hBB HK1 HK2 HK3 HK4 HMD
  go_wp2_with fail
  obtain ⟨W, hW⟩ : ∃ W, W = w4.alloc (.cells #[.int .i64 q1, .int .i64 q2] 26) := ⟨_, rfl⟩
  rw [← hW] at HPX HQX HB HR HCE ⊢
  clear hW
  obtain ⟨h1, h2, h3, h4⟩ := HOP.out
  dsimp only at h1 h2 h3 h4
  go_loopw [15, 16] (fun s i wr => ∃ k : Nat, k ≤ n ∧ i = .int .i64 k ∧ s = .bool (lefB l (p1, p2) k) ∧ Below W.heap.size W wr) (fun _ i _ => n - (intOf i).toNat)
  case atStart => exact ⟨0, by omega, rfl, rfl, Below.refl _ _⟩
  case round =>
    obtain ⟨k, hk, rfl, rfl, hB⟩ := hrel
    have HBr := Lib.hid hB
    by_cases hlt : k < n
    · have hlt' : (k : Int) < n := by omega
      have hkl : k < l.length := by rw [← HNN.out]; exact hlt
      have hkm : (k + 1) % n < n := Nat.mod_lt _ hn0
      have hkml : (k + 1) % n < l.length := by rw [← HNN.out]; exact hkm
      have hrem : ((k : Int) + 1).tmod n = (((k + 1) % n : Nat) : Int) := by rw [Int.tmod_eq_emod_of_nonneg (by omega)]; simp
      obtain ⟨c0, c1⟩ := HCE.out k hkl
      obtain ⟨d0, d1⟩ := HCE.out ((k + 1) % n) hkml
      have hnx : vx l ((k + 1) % n) = nx l k := by unfold nx; rw [HNN.out]
      have hPx := HPX.out.via hB
      have e0 := hPx.c0
      have e1 := hPx.c1
      have c0 := keptBelow hB c0
      have c1 := keptBelow hB c1
      have d0 := keptBelow hB d0
      have d1 := keptBelow hB d1
      have HT := Lib.hid (turnR_w (vx l k) (nx l k) (p1, p2) (val_smls HVL.out k hkl) (on_sml (by rw [← hnx]; exact HVL.out.on _ hkml)) (on_sml HOP.out))
      have HS : Hid (lefB l (p1, p2) (k + 1) = (lefB l (p1, p2) k && decide (0 < turn (vx l k) (nx l k) (p1, p2)))) := Lib.hid rfl
      rw [hnx] at d0 d1
      have hn0ne : ¬ n = 0 := by omega
      have hw1 : IntKind.i64.wrap ((k : Int) + 1) = (k : Int) + 1 := IntWalk.i64_in _ (by omega)
      clear hB hPx hkl hkml hnx
      generalize (k + 1) % n = m at *
      generalize vx l k = s at *
      generalize nx l k = t at *
      obtain ⟨s1, s2⟩ := s
      obtain ⟨t1, t2⟩ := t
      unfold pv at HT
      dsimp only at c0 c1 d0 d1 e0 e1 HT
      generalize turn (s1, s2) (t1, t2) (p1, p2) = tt at *
      rcases hl : lefB l (p1, p2) k with _ | _
      · rw [hl] at HS
        have HS2 : Hid (lefB l (p1, p2) (k + 1) = false) := HS
        clear hl
        go_wp2_with fail
        go_quiet (fail)
        go_wp2_with fail
        go_roundw
        case rel => exact ⟨k + 1, by omega, by go_num, by rw [HS2.out], below_drewN HBr.out _⟩
        case measure => simp [intOf]; omega
      · rw [hl, Bool.true_and] at HS
        clear hl
        go_wp2_with fail
        refine (wpIn_wide (n := 5)).1 ?_
        refine wpIn_region_T (fun w' => Below wr.drew.heap.size wr.drew w') 15 (by kernel_rfl) ?_
        have hd : Below wr.heap.size wr wr.drew := (Below.refl _ _).drew
        generalize wr.drew = wd at *
        have c0 := keptBelow hd c0
        have c1 := keptBelow hd c1
        have d0 := keptBelow hd d0
        have d1 := keptBelow hd d1
        have e0 := keptBelow hd e0
        have e1 := keptBelow hd e1
        refine wpT_tk 0 41 (v := ?_) (Below.refl _ _) rfl rfl (by rfl) (hy := fun w hw => ?_) (h := ?_)
        rotate_left
        · go_simp; with_reducible rfl
        try simp only [Act.put, List.setIfInBounds_toArray, List.set_cons_zero, List.set_cons_succ]
        refine wpT_tk 1 42 (v := ?_) (Below.refl _ _) rfl rfl (by rfl) (hy := fun w hw => ?_) (h := ?_)
        rotate_left
        · go_simp; with_reducible rfl
        try simp only [Act.put, List.setIfInBounds_toArray, List.set_cons_zero, List.set_cons_succ]
        refine wpT_tk 2 43 (v := ?_) (Below.refl _ _) rfl rfl (by rfl) (hy := fun w hw => ?_) (h := ?_)
        rotate_left
        · go_simp; with_reducible rfl
        try simp only [Act.put, List.setIfInBounds_toArray, List.set_cons_zero, List.set_cons_succ]
        refine wpT_tk 3 44 (v := ?_) (Below.refl _ _) rfl rfl (by rfl) (hy := fun w hw => ?_) (h := ?_)
        rotate_left
        · go_simp; with_reducible rfl
        try simp only [Act.put, List.setIfInBounds_toArray, List.set_cons_zero, List.set_cons_succ]
        refine wpT_tk 4 45 (v := ?_) (Below.refl _ _) rfl rfl (by rfl) (hy := fun w hw => ?_) (h := ?_)
        rotate_left
        · go_simp; with_reducible rfl
        try simp only [Act.put, List.setIfInBounds_toArray, List.set_cons_zero, List.set_cons_succ]
        refine wpT_tk 5 46 (v := ?_) (Below.refl _ _) rfl rfl (by rfl) (hy := fun w hw => ?_) (h := ?_)
        rotate_left
        · have c0 := keptBelow hw c0; have c1 := keptBelow hw c1; go_simp; with_reducible rfl
        try simp only [Act.put, List.setIfInBounds_toArray, List.set_cons_zero, List.set_cons_succ]
        refine wpT_tk 6 47 (v := ?_) (Below.refl _ _) rfl rfl (by rfl) (hy := fun w hw => ?_) (h := ?_)
        rotate_left
        · go_simp; with_reducible rfl
        try simp only [Act.put, List.setIfInBounds_toArray, List.set_cons_zero, List.set_cons_succ]
        refine wpT_tk 7 48 (v := ?_) (Below.refl _ _) rfl rfl (by rfl) (hy := fun w hw => ?_) (h := ?_)
        rotate_left
        · go_simp; with_reducible rfl
        try simp only [Act.put, List.setIfInBounds_toArray, List.set_cons_zero, List.set_cons_succ]
        refine wpT_tk 8 49 (v := ?_) (Below.refl _ _) rfl rfl (by rfl) (hy := fun w hw => ?_) (h := ?_)
        rotate_left
        · go_simp; with_reducible rfl
        try simp only [Act.put, List.setIfInBounds_toArray, List.set_cons_zero, List.set_cons_succ]
        refine wpT_tk 9 50 (v := ?_) (Below.refl _ _) rfl rfl (by rfl) (hy := fun w hw => ?_) (h := ?_)
        rotate_left
        · go_simp; with_reducible rfl
        try simp only [Act.put, List.setIfInBounds_toArray, List.set_cons_zero, List.set_cons_succ]
        refine wpT_tk 10 51 (v := ?_) (Below.refl _ _) rfl rfl (by rfl) (hy := fun w hw => ?_) (h := ?_)
        rotate_left
        · go_simp; with_reducible rfl
        try simp only [Act.put, List.setIfInBounds_toArray, List.set_cons_zero, List.set_cons_succ]
        refine wpT_tk 11 52 (v := ?_) (Below.refl _ _) rfl rfl (by rfl) (hy := fun w hw => ?_) (h := ?_)
        rotate_left
        · go_simp; with_reducible rfl
        try simp only [Act.put, List.setIfInBounds_toArray, List.set_cons_zero, List.set_cons_succ]
        refine wpT_tk 12 53 (v := ?_) (Below.refl _ _) rfl rfl (by rfl) (hy := fun w hw => ?_) (h := ?_)
        rotate_left
        · go_simp; with_reducible rfl
        try simp only [Act.put, List.setIfInBounds_toArray, List.set_cons_zero, List.set_cons_succ]
        refine wpT_tk 13 54 (v := ?_) (Below.refl _ _) rfl rfl (by rfl) (hy := fun w hw => ?_) (h := ?_)
        rotate_left
        · have d0 := keptBelow hw d0; have d1 := keptBelow hw d1; go_simp; with_reducible rfl
        try simp only [Act.put, List.setIfInBounds_toArray, List.set_cons_zero, List.set_cons_succ]
        refine wpT_tk 14 55 (v := ?_) (Below.refl _ _) rfl rfl (by rfl) (hy := fun w hw => ?_) (h := ?_)
        rotate_left
        · have e0 := keptBelow hw e0; have e1 := keptBelow hw e1; go_simp; with_reducible rfl
        try simp only [Act.put, List.setIfInBounds_toArray, List.set_cons_zero, List.set_cons_succ]
        refine wpT_oneW 15 rfl (by rfl) (by kernel_rfl) ?_
        go_simp
        refine ⟨trivial, ?_⟩
        refine (callsIn_wide.2 (HT.out wd)).mono ?_
        rintro e u3 ⟨rfl, hB3⟩
        refine wpT_oneW 16 rfl (by rfl) (by kernel_rfl) ?_
        go_simp
        refine wpT_oneW 17 rfl (by rfl) (by kernel_rfl) ?_
        go_simp
        refine wpT_oneW 18 rfl (by rfl) (by kernel_rfl) ?_
        go_simp
        refine wpT_done (by kernel_rfl) ?_ _
        have HB5 := Lib.hid (belowStep HBr.out (belowStep hd hB3))
        go_wp2_with fail
        go_roundw
        case rel => exact ⟨k + 1, by omega, by go_num, by rw [HS.out], HB5.out⟩
        case measure => simp [intOf]; omega
    · obtain rfl : n = k := by omega
      have HLE : Hid (lefB l (p1, p2) n = decide (insP l (p1, p2) = 1)) := Lib.hid (by rw [HNN.out]; exact left_in HVL.out HOP.out)
      rw [HLE.out]
      have HPr := Lib.hid (HPX.out.via hB)
      have HQr := Lib.hid (HQX.out.via hB)
      have HRr := Lib.hid (HR.out.via hB)
      have HBw := Lib.hid (belowStep HB.out hB)
      have e0 := HPr.out.c0
      have e1 := HPr.out.c1
      have HIN := Lib.hid (fun a b (ha : I64 a) (hb : I64 b) w1 (hB1 : Below wr.heap.size wr w1) => in_w l HVL.out a b ha hb _ w1 (HRr.out.via hB1))
      clear hB
      have HI := Lib.hid (insP_cases l (p1, p2))
      have HJ := Lib.hid (insP_cases l (q1, q2))
      have HIP := Lib.hid (fun w1 (hB1 : Below wr.heap.size wr w1) => HIN.out p1 p2 ⟨by omega, by omega⟩ ⟨by omega, by omega⟩ w1 hB1)
      go_upto_region 12 with fail
      go_cut [64] (fun sx wx => sx = .bool false ∧ Below wr.heap.size wr wx)
      case first =>
        generalize insP l (p1, p2) = I at *
        go_wp2_with fail
        refine (HIP.out _ (Below.refl _ _)).mono ?_
        rintro e w6 ⟨rfl, hB6⟩
        have HB6 := Lib.hid hB6
        clear hB6
        rcases HI.out with h | h | h
        · subst h
          go_wp2_with fail
          go_meet
          case rel => exact ⟨rfl, HB6.out⟩
        · subst h
          go_wp2_with fail
          go_meet
          case rel => exact ⟨rfl, HB6.out⟩
        · subst h
          go_wp2_with fail
          go_meet
          case rel => exact ⟨rfl, HB6.out⟩
      case rest =>
        obtain ⟨rfl, hB6⟩ := hcut
        have HB6 := Lib.hid hB6
        clear hB6
        go_upto_region 14 with fail
        have HPc := Lib.hid (HPr.out.via HB6.out)
        have HQc := Lib.hid (HQr.out.via HB6.out)
        have HIQ := Lib.hid (fun w1 (hB1 : Below wr.heap.size wr w1) => HIN.out q1 q2 ⟨by have := HOQ.out.x0; have := HOQ.out.x1; dsimp only at *; omega, by have := HOQ.out.x0; have := HOQ.out.x1; dsimp only at *; omega⟩ ⟨by have := HOQ.out.y0; have := HOQ.out.y1; dsimp only at *; omega, by have := HOQ.out.y0; have := HOQ.out.y1; dsimp only at *; omega⟩ w1 hB1)
        obtain ⟨k1, k2, k3, k4⟩ := HOQ.out
        dsimp only at k1 k2 k3 k4
        have hw1 : IntKind.i64.wrap (p1 + q1) = p1 + q1 := IntWalk.i64_in _ (by omega)
        have hw2 : IntKind.i64.wrap (p2 + q2) = p2 + q2 := IntWalk.i64_in _ (by omega)
        go_cut [92] (fun sx wx => ∃ t : Bool, sx = .bool t ∧ (t = true → (p1 + q1) % 2 = 0 ∧ (p2 + q2) % 2 = 0 ∧ 0 ≤ insP l (p1, p2) ∧ 0 ≤ insP l (q1, q2)) ∧ Below wr.heap.size wr wx)
        case first =>
          generalize insP l (p1, p2) = I at *
          generalize insP l (q1, q2) = J at *
          have e0 := HPc.out.c0
          have e1 := HPc.out.c1
          have f0 := HQc.out.c0
          have f1 := HQc.out.c1
          dsimp only at e0 e1 f0 f1
          by_cases hA : (p1 + q1) % 2 = 0
          · by_cases hA2 : (p2 + q2) % 2 = 0
            · go_wp2_with fail
              refine (HIP.out _ HB6.out).mono ?_
              rintro e w7 ⟨rfl, hB7⟩
              have HB7 := Lib.hid (belowStep HB6.out hB7)
              have f0 := keptBelow hB7 f0
              have f1 := keptBelow hB7 f1
              clear hB7
              rcases HI.out with h | h | h
              · subst h
                go_wp2_with fail
                refine (HIQ.out _ HB7.out).mono ?_
                rintro e w8 ⟨rfl, hB8⟩
                have HB8 := Lib.hid (belowStep HB7.out hB8)
                clear hB8
                rcases HJ.out with h | h | h
                · subst h
                  go_wp2_with fail
                  go_meet
                  case rel => exact ⟨true, rfl, fun _ => ⟨hA, hA2, by omega, by omega⟩, HB8.out⟩
                · subst h
                  go_wp2_with fail
                  go_meet
                  case rel => exact ⟨true, rfl, fun _ => ⟨hA, hA2, by omega, by omega⟩, HB8.out⟩
                · subst h
                  go_wp2_with fail
                  go_meet
                  case rel => exact ⟨false, rfl, fun h => (by cases h), HB8.out⟩
              · subst h
                go_wp2_with fail
                refine (HIQ.out _ HB7.out).mono ?_
                rintro e w8 ⟨rfl, hB8⟩
                have HB8 := Lib.hid (belowStep HB7.out hB8)
                clear hB8
                rcases HJ.out with h | h | h
                · subst h
                  go_wp2_with fail
                  go_meet
                  case rel => exact ⟨true, rfl, fun _ => ⟨hA, hA2, by omega, by omega⟩, HB8.out⟩
                · subst h
                  go_wp2_with fail
                  go_meet
                  case rel => exact ⟨true, rfl, fun _ => ⟨hA, hA2, by omega, by omega⟩, HB8.out⟩
                · subst h
                  go_wp2_with fail
                  go_meet
                  case rel => exact ⟨false, rfl, fun h => (by cases h), HB8.out⟩
              · subst h
                go_wp2_with fail
                go_meet
                case rel => exact ⟨false, rfl, fun h => (by cases h), HB7.out⟩
            · have hd1 : ((p2 + q2) % 2 == 0) = false := by simp [hA2]
              have hd2 : decide ((p2 + q2) % 2 = 0) = false := decide_eq_false hA2
              go_wp2_with fail
              go_meet
              case rel => exact ⟨false, rfl, fun h => (by cases h), HB6.out⟩
          · have hd1 : ((p1 + q1) % 2 == 0) = false := by simp [hA]
            have hd2 : decide ((p1 + q1) % 2 = 0) = false := decide_eq_false hA
            go_wp2_with fail
            go_meet
            case rel => exact ⟨false, rfl, fun h => (by cases h), HB6.out⟩
        case rest =>
          obtain ⟨t, rfl, hfa, hB9⟩ := hcut
          have HB9 := Lib.hid hB9
          have HFA := Lib.hid hfa
          clear hB9 hfa
          go_upto_if 92 with fail
          have HPd := Lib.hid (HPr.out.via HB9.out)
          have HQd := Lib.hid (HQr.out.via HB9.out)
          go_cut [] (fun wx => Below wr.heap.size wr wx)
          case first =>
            cases t with
            | false =>
              go_wp2_with fail
              go_meet
              case rel => exact HB9.out
            | true =>
              obtain ⟨hA, hA2, hI, hJ⟩ := HFA.out rfl
              have hHH := half_ok HVL.out HOP.out HOQ.out hA hA2 hI hJ
              have hHC := insP_cases l ((p1 + q1) / 2, (p2 + q2) / 2)
              have hw3 : IntKind.i64.wrap ((p1 + q1) / 2) = (p1 + q1) / 2 := IntWalk.i64_in _ (by omega)
              have hw4 : IntKind.i64.wrap ((p2 + q2) / 2) = (p2 + q2) / 2 := IntWalk.i64_in _ (by omega)
              have HIH := Lib.hid (fun w1 (hB1 : Below wr.heap.size wr w1) => HIN.out ((p1 + q1) / 2) ((p2 + q2) / 2) ⟨by omega, by omega⟩ ⟨by omega, by omega⟩ w1 hB1)
              generalize insP l ((p1 + q1) / 2, (p2 + q2) / 2) = X at *
              generalize insP l (p1, p2) = I at *
              generalize insP l (q1, q2) = J at *
              have HH := Lib.hid hHH
              have HC3 := Lib.hid hHC
              have e0 := HPd.out.c0
              have e1 := HPd.out.c1
              have f0 := HQd.out.c0
              have f1 := HQd.out.c1
              dsimp only at e0 e1 f0 f1
              clear hHH hHC hA hA2
              have HIg := Lib.hid hI
              have HJg := Lib.hid hJ
              clear hI hJ
              go_wp2_with fail
              refine (sn_at _ _ _).mono ?_
              rintro e w10 ⟨rfl, hB10⟩
              have HB10 := Lib.hid (belowStep HB9.out hB10)
              clear hB10
              go_wp2_with fail
              refine (HIH.out _ HB10.out).mono ?_
              rintro e w11 ⟨rfl, hB11⟩
              have HB11 := Lib.hid (belowStep HB10.out hB11)
              clear hB11
              replace e0 := (HPr.out.via HB11.out).c0
              replace e1 := (HPr.out.via HB11.out).c1
              replace f0 := (HQr.out.via HB11.out).c0
              replace f1 := (HQr.out.via HB11.out).c1
              dsimp only at e0 e1 f0 f1
              have hX : 0 ≤ X := HH.out.1
              have hXd : decide (X < 0) = false := decide_eq_false (by omega)
              go_wp2_with fail
              refine (wpIn_wide (n := 5)).1 ?_
              refine wpIn_region_T (fun w' => Below w11.drew.heap.size w11.drew w') 11 (by kernel_rfl) ?_
              have hd : Below w11.heap.size w11 w11.drew := (Below.refl _ _).drew
              generalize w11.drew = wd at *
              have e0 := keptBelow hd e0
              have e1 := keptBelow hd e1
              have f0 := keptBelow hd f0
              have f1 := keptBelow hd f1
              refine wpT_tk 0 108 (v := ?_) (Below.refl _ _) rfl rfl (by rfl) (hy := fun w hw => ?_) (h := ?_)
              rotate_left
              · go_simp; with_reducible rfl
              try simp only [Act.put, List.setIfInBounds_toArray, List.set_cons_zero, List.set_cons_succ]
              refine wpT_tk 1 109 (v := ?_) (Below.refl _ _) rfl rfl (by rfl) (hy := fun w hw => ?_) (h := ?_)
              rotate_left
              · go_simp; with_reducible rfl
              try simp only [Act.put, List.setIfInBounds_toArray, List.set_cons_zero, List.set_cons_succ]
              refine wpT_tk 2 110 (v := ?_) (Below.refl _ _) rfl rfl (by rfl) (hy := fun w hw => ?_) (h := ?_)
              rotate_left
              · go_simp; with_reducible rfl
              try simp only [Act.put, List.setIfInBounds_toArray, List.set_cons_zero, List.set_cons_succ]
              refine wpT_tk 3 111 (v := ?_) (Below.refl _ _) rfl rfl (by rfl) (hy := fun w hw => ?_) (h := ?_)
              rotate_left
              · go_simp; with_reducible rfl
              try simp only [Act.put, List.setIfInBounds_toArray, List.set_cons_zero, List.set_cons_succ]
              refine wpT_tk 4 112 (v := ?_) (Below.refl _ _) rfl rfl (by rfl) (hy := fun w hw => ?_) (h := ?_)
              rotate_left
              · go_simp; with_reducible rfl
              try simp only [Act.put, List.setIfInBounds_toArray, List.set_cons_zero, List.set_cons_succ]
              refine wpT_tk 5 113 (v := ?_) (Below.refl _ _) rfl rfl (by rfl) (hy := fun w hw => ?_) (h := ?_)
              rotate_left
              · have e0 := keptBelow hw e0; have e1 := keptBelow hw e1; go_simp; with_reducible rfl
              try simp only [Act.put, List.setIfInBounds_toArray, List.set_cons_zero, List.set_cons_succ]
              refine wpT_tk 7 115 (v := ?_) (Below.refl _ _) rfl rfl (by rfl) (hy := fun w hw => ?_) (h := ?_)
              rotate_left
              · go_simp; with_reducible rfl
              try simp only [Act.put, List.setIfInBounds_toArray, List.set_cons_zero, List.set_cons_succ]
              refine wpT_tk 8 116 (v := ?_) (Below.refl _ _) rfl rfl (by rfl) (hy := fun w hw => ?_) (h := ?_)
              rotate_left
              · have f0 := keptBelow hw f0; have f1 := keptBelow hw f1; go_simp; with_reducible rfl
              try simp only [Act.put, List.setIfInBounds_toArray, List.set_cons_zero, List.set_cons_succ]
              refine wpT_oneW 6 rfl (by rfl) (by kernel_rfl) ?_
              go_simp
              refine ⟨trivial, ?_⟩
              refine (callsIn_wide.2 (HIP.out wd (belowStep HB11.out hd))).mono ?_
              rintro e w12 ⟨rfl, hB12⟩
              refine ⟨hB12, ?_⟩
              refine wpT_oneW 9 rfl (by rfl) (by kernel_rfl) ?_
              go_simp
              refine ⟨trivial, ?_⟩
              refine (callsIn_wide.2 (HIQ.out w12 (belowStep (belowStep HB11.out hd) hB12))).mono ?_
              rintro e w13 ⟨rfl, hB13⟩
              refine ⟨belowStep hB12 hB13, ?_⟩
              have HB13 := Lib.hid (belowStep (belowStep HB11.out hd) (belowStep hB12 hB13))
              have h1 := belowStep hB12 hB13
              clear hB12 hB13
              rcases HI.out with h | h | h
              rotate_left 2
              · exact absurd HIg.out (by omega)
              all_goals
                subst h
                rcases HJ.out with h | h | h
                rotate_left 2
                · exact absurd HJg.out (by omega)
                all_goals
                  subst h
                  rcases HC3.out with h | h | h
                  rotate_left 2
                  · exact absurd hX (by omega)
                  all_goals
                    subst h
                    first
                    | exact absurd HH.out.2 (by decide)
                    | (refine wpT_oneW 10 rfl (by rfl) (by kernel_rfl) ?_
                       go_simp
                       refine wpT_oneW 11 rfl (by rfl) (by kernel_rfl) ?_
                       go_simp
                       refine wpT_oneW 12 rfl (by rfl) (by kernel_rfl) ?_
                       go_simp
                       refine wpT_done (by kernel_rfl) ?_ _
                       go_wp2_with fail
                       go_meet
                       case rel => exact HB13.out)
          case rest =>
            have HB9 := Lib.hid hcut
            clear hcut
            go_wp2_with fail
            obtain ⟨W5, hW5⟩ : ∃ W5, W5 = wr := ⟨_, rfl⟩
            subst hW5
            go_loopw [18, 19] (fun s i wx => ∃ k : Nat, k ≤ 4 ∧ i = .int .i64 k ∧ s = .bool (whB l p1 p2 k) ∧ Below W5.heap.size W5 wx) (fun _ i _ => 4 - (intOf i).toNat)
            case atStart => exact ⟨0, by omega, rfl, rfl, HB9.out⟩
            case round =>
              obtain ⟨k, hk, rfl, rfl, hB⟩ := hrel
              have HBk := Lib.hid hB
              have HPk := Lib.hid (HPr.out.via hB)
              clear hB
              by_cases hlt : k < 4
              · have hlt' : (k : Int) < 4 := by omega
                have HS : Hid (whB l p1 p2 (k + 1) = (whB l p1 p2 k && decide (0 ≤ insP l (p1 + (k : Int) % 2, p2 + (k : Int) / 2)))) := Lib.hid rfl
                rcases hw : whB l p1 p2 k with _ | _
                · rw [hw] at HS
                  have HS2 : Hid (whB l p1 p2 (k + 1) = false) := HS
                  clear hw HS
                  go_wp2_with fail
                  go_roundw
                  case rel => exact ⟨k + 1, by omega, by go_num, by rw [HS2.out], HBk.out⟩
                  case measure => simp [intOf]; omega
                · rw [hw, Bool.true_and] at HS
                  have HIK := Lib.hid (fun w1 hB1 => HIN.out (p1 + (k : Int) % 2) (p2 + (k : Int) / 2) ⟨by omega, by omega⟩ ⟨by omega, by omega⟩ w1 hB1)
                  have HXC := Lib.hid (insP_cases l (p1 + (k : Int) % 2, p2 + (k : Int) / 2))
                  have e0 := HPk.out.c0
                  have e1 := HPk.out.c1
                  have hw5 : IntKind.i64.wrap (p1 + (k : Int) % 2) = p1 + (k : Int) % 2 := IntWalk.i64_in _ (by omega)
                  have hw6 : IntKind.i64.wrap (p2 + (k : Int) / 2) = p2 + (k : Int) / 2 := IntWalk.i64_in _ (by omega)
                  dsimp only at e0 e1
                  clear hw
                  generalize insP l (p1 + (k : Int) % 2, p2 + (k : Int) / 2) = X at *
                  go_wp2_with fail
                  refine (sn_at _ _ _).mono ?_
                  rintro e w15 ⟨rfl, hB15⟩
                  have HB15 := Lib.hid (belowStep HBk.out hB15)
                  clear hB15
                  go_wp2_with fail
                  refine (HIK.out _ HB15.out).mono ?_
                  rintro e w16 ⟨rfl, hB16⟩
                  have HB16 := Lib.hid (belowStep HB15.out hB16)
                  clear hB16
                  rcases HXC.out with h | h | h
                  all_goals
                    subst h
                    go_wp2_with fail
                    go_roundw
                    case rel => exact ⟨k + 1, by omega, by go_num, by rw [HS.out]; rfl, HB16.out⟩
                    case measure => simp [intOf]; omega
              · obtain rfl : k = 4 := by omega
                have e0 := HPk.out.c0
                have e1 := HPk.out.c1
                dsimp only at e0 e1
                have HBF := Lib.hid (belowStep HBw.out HBk.out)
                rcases hw : whB l p1 p2 4 with _ | _
                · clear hw
                  go_wp2_with fail
                  go_ret
                  exact ⟨rfl, HBF.out⟩
                · have HCW := Lib.hid (cell_w l (by have := HVL.out.hi; unfold Len; omega) p1 p2 ⟨by omega, by omega⟩ ⟨by omega, by omega⟩ _ _ (HRr.out.via HBk.out))
                  rw [wh_cell HVL.out HOP.out hw] at HCW
                  clear hw
                  go_wp2_with fail
                  refine HCW.out.mono ?_
                  rintro e w17 ⟨rfl, hB17⟩
                  go_wp2_with fail
                  go_ret
                  exact ⟨rfl, belowStep HBF.out hB17⟩
end Go.Proofs.Ytaojfjpnjhhaaaa
