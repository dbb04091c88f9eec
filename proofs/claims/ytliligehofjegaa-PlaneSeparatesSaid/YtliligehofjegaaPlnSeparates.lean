/- The walk of PlaneSeparates. -/
import Derived.Test.YtliligehofjegaaPlnPoly
import Derived.Test.YtliligehofjegaaPlnSane
import Derived.Test.YtliligehofjegaaPlnConvexP
import Derived.Deep.DeepCutAuto
namespace Go.Proofs.Ytliligehofjegaa
open Go.RowKit Go.Shelf Pln

set_option maxRecDepth 100000 in
set_option maxHeartbeats 1000000 in
theorem separates_w (x y : List Pt) (hx : (x.length : Int) ≤ 9223372036854775807) (hy : (y.length : Int) ≤ 9223372036854775807) (how px py : Int) (i0 : I64 how) (i1 : I64 px) (i2 : I64 py) (v1 v2 : Value) (w : World) (h1 : PtsAt w v1 x) (h2 : PtsAt w v2 y) :
    Calls Try.prog 6 #[v1, v2, .int .i64 how, .int .i64 px, .int .i64 py] w fun e w' => e = .returned (.bool true) ∧ Below w.heap.size w w' := by
  have HPR := Lib.hid (fun w1 (hB : Below w.heap.size w w1) => pair_w x y hx hy how i0 v1 v2 w1 (h1.via hB) (h2.via hB))
  have HK1 := Lib.hid (fun w1 => pickL_w px 41 i1 (by omega) (by omega) w1)
  have HK2 := Lib.hid (fun w1 => pickL_w py 41 i2 (by omega) (by omega) w1)
  have HOP := Lib.hid (pk_on41 (a := px) (b := py))
  obtain ⟨⟨a1, c1, rfl, _, _, _⟩, _⟩ := h1
  obtain ⟨⟨a2, c2, rfl, _, _, _⟩, _⟩ := h2
  clear hx hy i0 i1 i2
  generalize x.length = xn at *
  generalize y.length = yn at *
  generalize pkN px 41 = p1 at *
  generalize pkN py 41 = p2 at *
  go_enter Try.func6, Try.ntmps6
  go_wp2_with fail
  refine (sane_w _).mono ?_
  rintro e w1 ⟨rfl, hB1⟩
  go_wp2_with fail
  refine (HPR.out _ hB1).mono ?_
  rintro e w2 ⟨a, b, va, vb, rfl, hva, hvb, hra, hrb, hB2⟩
  obtain ⟨ga, oa, ca, na, rfl, hPA⟩ := poly_of hra hva
  obtain ⟨gb, ob, cb, nb, rfl, hPB⟩ := poly_of hrb hvb
  have HA := Lib.hid hPA
  have HB := Lib.hid hPB
  have HBW := Lib.hid (belowStep hB1 hB2)
  clear hB1 hB2 hra hrb hva hvb hPA hPB HPR
  have HSD := Lib.hid (fun w1 (hB : Below w2.heap.size w2 w1) => side_w a b HA.out.len HB.out.len _ _ w1 (HA.out.at_.via hB) (HB.out.at_.via hB))
  have HOV := Lib.hid (fun w1 (hB : Below w2.heap.size w2 w1) => overlap_w a b HA.out.len HB.out.len _ _ w1 (HA.out.at_.via hB) (HB.out.at_.via hB))
  have HOR := Lib.hid (fun w1 (hB : Below w2.heap.size w2 w1) => overlap_w b a HB.out.len HA.out.len _ _ w1 (HB.out.at_.via hB) (HA.out.at_.via hB))
  have HOS := Lib.hid (fun w1 (hB : Below w2.heap.size w2 w1) => overlap_w a a HA.out.len HA.out.len _ _ w1 (HA.out.at_.via hB) (HA.out.at_.via hB))
  rw [over_self HA.out.vb] at HOS
  rw [← over_comm HA.out.vb HB.out.vb] at HOR
  have HIA := Lib.hid (fun w1 (hB : Below w2.heap.size w2 w1) => inside_w a HA.out.len (p1, p2) (on_i64 HOP.out) _ w1 (HA.out.at_.via hB))
  have HIB := Lib.hid (fun w1 (hB : Below w2.heap.size w2 w1) => inside_w b HB.out.len (p1, p2) (on_i64 HOP.out) _ w1 (HB.out.at_.via hB))
  have HCA := Lib.hid (fun w1 (hB : Below w2.heap.size w2 w1) => cell_w a HA.out.len p1 p2 (on_i64 HOP.out).1 (on_i64 HOP.out).2 _ w1 (HA.out.at_.via hB))
  have HCB := Lib.hid (fun w1 (hB : Below w2.heap.size w2 w1) => cell_w b HB.out.len p1 p2 (on_i64 HOP.out).1 (on_i64 HOP.out).2 _ w1 (HB.out.at_.via hB))
  have HXI := Lib.hid (sep_inside HA.out.v HB.out.v (p := (p1, p2)) HOP.out)
  have HXC := Lib.hid (sep_cell HA.out.v HB.out.v (x := p1) (y := p2) HOP.out)
  have HO : Hid (overP a b = (sideP a b).isNone) := Lib.hid (by unfold overP; rw [HA.out.vb, HB.out.vb]; simp)
  have HSP := Lib.hid (side_spec HA.out.v HB.out.v)
  unfold pv at HIA HIB
  dsimp only at HIA HIB
  generalize insP a (p1, p2) = ia at *
  generalize insP b (p1, p2) = ib at *
  generalize cellP a p1 p2 = ka at *
  generalize cellP b p1 p2 = kb at *
  rw [HO.out] at HOV HOR
  clear HO
  go_wp2_with fail
  refine (HSD.out _ (Below.refl _ _)).mono ?_
  rintro e w3 ⟨rfl, hB3⟩
  have HB3 := Lib.hid hB3
  clear hB3 HSD
  rcases hs : sideP a b with _ | ⟨wh, ed⟩
  · rw [hs] at HOV HOR
    change Hid (∀ w1, Below w2.heap.size w2 w1 → Calls Try.prog _ _ w1 fun e w' => e = .returned (.bool true) ∧ _) at HOV
    change Hid (∀ w1, Below w2.heap.size w2 w1 → Calls Try.prog _ _ w1 fun e w' => e = .returned (.bool true) ∧ _) at HOR
    clear HXI HXC HSP hs
    unfold sideV
    go_wp2_with fail
    refine (HOV.out _ HB3.out).mono ?_
    rintro e w4 ⟨rfl, hB⟩
    have HB4 := Lib.hid (belowStep HB3.out hB)
    clear hB
    go_wp2_with fail
    refine (HOV.out _ HB4.out).mono ?_
    rintro e w5 ⟨rfl, hB⟩
    have HB5 := Lib.hid (belowStep HB4.out hB)
    clear hB
    go_wp2_with fail
    refine (HOR.out _ HB5.out).mono ?_
    rintro e w6 ⟨rfl, hB⟩
    have HB6 := Lib.hid (belowStep HB5.out hB)
    clear hB
    go_wp2_with fail
    refine (HOS.out _ HB6.out).mono ?_
    rintro e w7 ⟨rfl, hB⟩
    have HB7 := Lib.hid (belowStep HB6.out hB)
    clear hB
    go_wp2_with fail
    refine (HK1.out _).mono ?_
    rintro e u ⟨rfl, rfl⟩
    go_wp2_with fail
    refine (HK2.out _).mono ?_
    rintro e u ⟨rfl, rfl⟩
    go_wp2_with fail
    refine (sn_at _ _ _).mono ?_
    rintro e w8 ⟨rfl, hB⟩
    have HB8 := Lib.hid (belowStep HB7.out hB)
    clear hB
    have HPX := Lib.hid (PBox.new w8 p1 p2)
    have hA8 := alloc_below w8 (.cells #[.int .i64 p1, .int .i64 p2] 26)
    have HB9 := Lib.hid (belowStep HB8.out hA8)
    clear hA8
    obtain ⟨W, hW⟩ : ∃ W, W = w8.alloc (.cells #[.int .i64 p1, .int .i64 p2] 26) := ⟨_, rfl⟩
    obtain ⟨bx, hbx⟩ : ∃ bx, bx = w8.heap.size := ⟨_, rfl⟩
    go_upto_region 9 with fail
    rw [← hW, ← hbx] at HPX ⊢
    rw [← hW] at HB9
    clear hW hbx
    go_cut [96] (fun sx wx => sx = .bool false ∧ Below w2.heap.size w2 wx)
    case first =>
      have e0 := HPX.out.c0
      have e1 := HPX.out.c1
      dsimp only at e0 e1
      go_wp2_with fail
      refine (HIA.out _ HB9.out).mono ?_
      rintro e w10 ⟨rfl, hB⟩
      have HB10 := Lib.hid (belowStep HB9.out hB)
      have HPX10 := Lib.hid (HPX.out.via hB)
      clear e0 e1 hB
      have e0 := HPX10.out.c0
      have e1 := HPX10.out.c1
      dsimp only at e0 e1
      by_cases hia : ia = 1
      · obtain rfl : ia = 1 := hia
        go_wp2_with fail
        refine (HIB.out _ HB10.out).mono ?_
        rintro e w11 ⟨rfl, hB⟩
        have HB11 := Lib.hid (belowStep HB10.out hB)
        have HPX11 := Lib.hid (HPX10.out.via hB)
        clear e0 e1 hB
        have e0 := HPX11.out.c0
        have e1 := HPX11.out.c1
        dsimp only at e0 e1
        by_cases hib : ib = 1
        · obtain rfl : ib = 1 := hib
          go_wp2_with fail
          refine (HCA.out _ HB11.out).mono ?_
          rintro e w12 ⟨rfl, hB⟩
          have HB12 := Lib.hid (belowStep HB11.out hB)
          have HPX12 := Lib.hid (HPX11.out.via hB)
          clear e0 e1 hB
          have e0 := HPX12.out.c0
          have e1 := HPX12.out.c1
          dsimp only at e0 e1
          by_cases hka : ka = 1
          · obtain rfl : ka = 1 := hka
            go_wp2_with fail
            refine (HCB.out _ HB12.out).mono ?_
            rintro e w13 ⟨rfl, hB⟩
            have HB13 := Lib.hid (belowStep HB12.out hB)
            have HPX13 := Lib.hid (HPX12.out.via hB)
            clear e0 e1 hB
            have e0 := HPX13.out.c0
            have e1 := HPX13.out.c1
            dsimp only at e0 e1
            by_cases hkb : kb = 1
            · obtain rfl : kb = 1 := hkb
              go_wp2_with fail
              go_meet
              case rel => exact ⟨rfl, HB13.out⟩
            · have hd1 : (kb == 1) = false := by simp [hkb]
              have hd2 : decide (kb = 1) = false := decide_eq_false hkb
              go_wp2_with fail
              go_meet
              case rel => exact ⟨rfl, HB13.out⟩
          · have hd1 : (ka == 1) = false := by simp [hka]
            have hd2 : decide (ka = 1) = false := decide_eq_false hka
            go_wp2_with fail
            go_meet
            case rel => exact ⟨rfl, HB12.out⟩
        · have hd3 : (ib == 1) = false := by simp [hib]
          have hd4 : decide (ib = 1) = false := decide_eq_false hib
          go_wp2_with fail
          refine (HCA.out _ HB11.out).mono ?_
          rintro e w12 ⟨rfl, hB⟩
          have HB12 := Lib.hid (belowStep HB11.out hB)
          have HPX12 := Lib.hid (HPX11.out.via hB)
          clear e0 e1 hB
          have e0 := HPX12.out.c0
          have e1 := HPX12.out.c1
          dsimp only at e0 e1
          by_cases hka : ka = 1
          · obtain rfl : ka = 1 := hka
            go_wp2_with fail
            refine (HCB.out _ HB12.out).mono ?_
            rintro e w13 ⟨rfl, hB⟩
            have HB13 := Lib.hid (belowStep HB12.out hB)
            have HPX13 := Lib.hid (HPX12.out.via hB)
            clear e0 e1 hB
            have e0 := HPX13.out.c0
            have e1 := HPX13.out.c1
            dsimp only at e0 e1
            by_cases hkb : kb = 1
            · obtain rfl : kb = 1 := hkb
              go_wp2_with fail
              go_meet
              case rel => exact ⟨rfl, HB13.out⟩
            · have hd1 : (kb == 1) = false := by simp [hkb]
              have hd2 : decide (kb = 1) = false := decide_eq_false hkb
              go_wp2_with fail
              go_meet
              case rel => exact ⟨rfl, HB13.out⟩
          · have hd1 : (ka == 1) = false := by simp [hka]
            have hd2 : decide (ka = 1) = false := decide_eq_false hka
            go_wp2_with fail
            go_meet
            case rel => exact ⟨rfl, HB12.out⟩
      · have hd3 : (ia == 1) = false := by simp [hia]
        have hd4 : decide (ia = 1) = false := decide_eq_false hia
        go_wp2_with fail
        refine (HCA.out _ HB10.out).mono ?_
        rintro e w11 ⟨rfl, hB⟩
        have HB11 := Lib.hid (belowStep HB10.out hB)
        have HPX11 := Lib.hid (HPX10.out.via hB)
        clear e0 e1 hB
        have e0 := HPX11.out.c0
        have e1 := HPX11.out.c1
        dsimp only at e0 e1
        by_cases hka : ka = 1
        · obtain rfl : ka = 1 := hka
          go_wp2_with fail
          refine (HCB.out _ HB11.out).mono ?_
          rintro e w12 ⟨rfl, hB⟩
          have HB12 := Lib.hid (belowStep HB11.out hB)
          have HPX12 := Lib.hid (HPX11.out.via hB)
          clear e0 e1 hB
          have e0 := HPX12.out.c0
          have e1 := HPX12.out.c1
          dsimp only at e0 e1
          by_cases hkb : kb = 1
          · obtain rfl : kb = 1 := hkb
            go_wp2_with fail
            go_meet
            case rel => exact ⟨rfl, HB12.out⟩
          · have hd1 : (kb == 1) = false := by simp [hkb]
            have hd2 : decide (kb = 1) = false := decide_eq_false hkb
            go_wp2_with fail
            go_meet
            case rel => exact ⟨rfl, HB12.out⟩
        · have hd1 : (ka == 1) = false := by simp [hka]
          have hd2 : decide (ka = 1) = false := decide_eq_false hka
          go_wp2_with fail
          go_meet
          case rel => exact ⟨rfl, HB11.out⟩
    case rest =>
      obtain ⟨rfl, hB⟩ := hcut
      have HB12 := Lib.hid hB
      clear hB
      go_wp2_with fail
      go_ret
      exact ⟨rfl, belowStep HBW.out HB12.out⟩
  · rw [hs] at HOV HOR HXI HXC
    change Hid (∀ w1, Below w2.heap.size w2 w1 → Calls Try.prog _ _ w1 fun e w' => e = .returned (.bool false) ∧ _) at HOV
    change Hid (∀ w1, Below w2.heap.size w2 w1 → Calls Try.prog _ _ w1 fun e w' => e = .returned (.bool false) ∧ _) at HOR
    have HSS := Lib.hid (HSP.out _ _ hs)
    clear hs HSP
    unfold sideV
    go_wp2_with fail
    refine (HOV.out _ HB3.out).mono ?_
    rintro e w4 ⟨rfl, hB⟩
    have HB4 := Lib.hid (belowStep HB3.out hB)
    clear hB
    go_wp2_with fail
    refine (HOV.out _ HB4.out).mono ?_
    rintro e w5 ⟨rfl, hB⟩
    have HB5 := Lib.hid (belowStep HB4.out hB)
    clear hB
    go_wp2_with fail
    refine (HOR.out _ HB5.out).mono ?_
    rintro e w6 ⟨rfl, hB⟩
    have HB6 := Lib.hid (belowStep HB5.out hB)
    clear hB
    go_wp2_with fail
    refine (HOS.out _ HB6.out).mono ?_
    rintro e w7 ⟨rfl, hB⟩
    have HB7 := Lib.hid (belowStep HB6.out hB)
    clear hB
    go_wp2_with fail
    refine (HK1.out _).mono ?_
    rintro e u ⟨rfl, rfl⟩
    go_wp2_with fail
    refine (HK2.out _).mono ?_
    rintro e u ⟨rfl, rfl⟩
    go_wp2_with fail
    refine (sn_at _ _ _).mono ?_
    rintro e w8 ⟨rfl, hB⟩
    have HB8 := Lib.hid (belowStep HB7.out hB)
    clear hB
    have HPX := Lib.hid (PBox.new w8 p1 p2)
    have hA8 := alloc_below w8 (.cells #[.int .i64 p1, .int .i64 p2] 26)
    have HB9 := Lib.hid (belowStep HB8.out hA8)
    clear hA8
    obtain ⟨W, hW⟩ : ∃ W, W = w8.alloc (.cells #[.int .i64 p1, .int .i64 p2] 26) := ⟨_, rfl⟩
    obtain ⟨bx, hbx⟩ : ∃ bx, bx = w8.heap.size := ⟨_, rfl⟩
    go_upto_region 9 with fail
    rw [← hW, ← hbx] at HPX ⊢
    rw [← hW] at HB9
    clear hW hbx
    go_cut [96] (fun sx wx => sx = .bool false ∧ Below w2.heap.size w2 wx)
    case first =>
      have e0 := HPX.out.c0
      have e1 := HPX.out.c1
      dsimp only at e0 e1
      go_wp2_with fail
      refine (HIA.out _ HB9.out).mono ?_
      rintro e w10 ⟨rfl, hB⟩
      have HB10 := Lib.hid (belowStep HB9.out hB)
      have HPX10 := Lib.hid (HPX.out.via hB)
      clear e0 e1 hB
      have e0 := HPX10.out.c0
      have e1 := HPX10.out.c1
      dsimp only at e0 e1
      by_cases hia : ia = 1
      · obtain rfl : ia = 1 := hia
        go_wp2_with fail
        refine (HIB.out _ HB10.out).mono ?_
        rintro e w11 ⟨rfl, hB⟩
        have HB11 := Lib.hid (belowStep HB10.out hB)
        have HPX11 := Lib.hid (HPX10.out.via hB)
        clear e0 e1 hB
        have e0 := HPX11.out.c0
        have e1 := HPX11.out.c1
        dsimp only at e0 e1
        by_cases hib : ib = 1
        · exact absurd (HXI.out (by trivial) hib) (by simp)
        · have hd3 : (ib == 1) = false := by simp [hib]
          have hd4 : decide (ib = 1) = false := decide_eq_false hib
          go_wp2_with fail
          refine (HCA.out _ HB11.out).mono ?_
          rintro e w12 ⟨rfl, hB⟩
          have HB12 := Lib.hid (belowStep HB11.out hB)
          have HPX12 := Lib.hid (HPX11.out.via hB)
          clear e0 e1 hB
          have e0 := HPX12.out.c0
          have e1 := HPX12.out.c1
          dsimp only at e0 e1
          by_cases hka : ka = 1
          · obtain rfl : ka = 1 := hka
            go_wp2_with fail
            refine (HCB.out _ HB12.out).mono ?_
            rintro e w13 ⟨rfl, hB⟩
            have HB13 := Lib.hid (belowStep HB12.out hB)
            have HPX13 := Lib.hid (HPX12.out.via hB)
            clear e0 e1 hB
            have e0 := HPX13.out.c0
            have e1 := HPX13.out.c1
            dsimp only at e0 e1
            by_cases hkb : kb = 1
            · exact absurd (HXC.out (by trivial) hkb) (by simp)
            · have hd1 : (kb == 1) = false := by simp [hkb]
              have hd2 : decide (kb = 1) = false := decide_eq_false hkb
              go_wp2_with fail
              go_meet
              case rel => exact ⟨rfl, HB13.out⟩
          · have hd1 : (ka == 1) = false := by simp [hka]
            have hd2 : decide (ka = 1) = false := decide_eq_false hka
            go_wp2_with fail
            go_meet
            case rel => exact ⟨rfl, HB12.out⟩
      · have hd3 : (ia == 1) = false := by simp [hia]
        have hd4 : decide (ia = 1) = false := decide_eq_false hia
        go_wp2_with fail
        refine (HCA.out _ HB10.out).mono ?_
        rintro e w11 ⟨rfl, hB⟩
        have HB11 := Lib.hid (belowStep HB10.out hB)
        have HPX11 := Lib.hid (HPX10.out.via hB)
        clear e0 e1 hB
        have e0 := HPX11.out.c0
        have e1 := HPX11.out.c1
        dsimp only at e0 e1
        by_cases hka : ka = 1
        · obtain rfl : ka = 1 := hka
          go_wp2_with fail
          refine (HCB.out _ HB11.out).mono ?_
          rintro e w12 ⟨rfl, hB⟩
          have HB12 := Lib.hid (belowStep HB11.out hB)
          have HPX12 := Lib.hid (HPX11.out.via hB)
          clear e0 e1 hB
          have e0 := HPX12.out.c0
          have e1 := HPX12.out.c1
          dsimp only at e0 e1
          by_cases hkb : kb = 1
          · exact absurd (HXC.out (by trivial) hkb) (by simp)
          · have hd1 : (kb == 1) = false := by simp [hkb]
            have hd2 : decide (kb = 1) = false := decide_eq_false hkb
            go_wp2_with fail
            go_meet
            case rel => exact ⟨rfl, HB12.out⟩
        · have hd1 : (ka == 1) = false := by simp [hka]
          have hd2 : decide (ka = 1) = false := decide_eq_false hka
          go_wp2_with fail
          go_meet
          case rel => exact ⟨rfl, HB11.out⟩
    case rest =>
      obtain ⟨rfl, hB⟩ := hcut
      have HB12 := Lib.hid hB
      clear hB
      rcases HSS.out with ⟨rfl, h1, h2⟩ | ⟨rfl, h1, h2⟩
      · have HS2 := Lib.hid (And.intro h1 h2)
        clear HSS
        clear h2
        have hedb : (ed : Int) < na := by have := HA.out.hn; omega
        have hedn : ¬ ((na : Int) ≤ ed) := by omega
        go_upto_region 20 with fail
        go_wp2_with fail
        go_loopw [20] (fun i wr => ∃ k : Nat, k ≤ nb ∧ i = .int .i64 k ∧ Below wc.heap.size wc wr) (fun i _ => nb - (intOf i).toNat)
        case atStart => exact ⟨0, by omega, rfl, Below.refl _ _⟩
        case round =>
          obtain ⟨k, hk, rfl, hB⟩ := hrel
          have HBr := Lib.hid hB
          have HBZ := Lib.hid (belowStep HB12.out hB)
          clear hB
          by_cases hlt : k < nb
          · have hlt' : (k : Int) < nb := by omega
            have hbd := HA.out.bd
            have hbd2 := HB.out.bd
            have hed : ed < na := by omega
            have hkm : (ed + 1) % na < na := Nat.mod_lt _ (by omega)
            have hrem : ((ed : Int) + 1).tmod na = (((ed + 1) % na : Nat) : Int) := by rw [Int.tmod_eq_emod_of_nonneg (by omega)]; simp
            have hPo := HA.out.via HBZ.out
            have hPt := HB.out.via HBZ.out
            obtain ⟨c0, c1⟩ := hPo.cells hed
            obtain ⟨d0, d1⟩ := hPo.cells hkm
            obtain ⟨f0, f1⟩ := hPt.cells hlt
            have hnx : vx a ((ed + 1) % na) = nx a ed := by unfold nx; rw [HA.out.hn]
            rw [hnx] at d0 d1
            have hon : On (nx a ed) := by rw [← hnx]; exact HA.out.v.on _ (by rw [← HA.out.hn]; exact hkm)
            have HT := Lib.hid (turnR_w (vx a ed) (nx a ed) (vx b k) (on_sml (HA.out.v.on ed (by rw [← HA.out.hn]; exact hed))) (on_sml hon) (on_sml (HB.out.v.on k (by rw [← HB.out.hn]; exact hlt))))
            have hle := HS2.out.2 (vx b k) (vx_mem (by rw [← HB.out.hn]; exact hlt))
            have hn0ne : ¬ na = 0 := by omega
            have hw1 : IntKind.i64.wrap ((ed : Int) + 1) = (ed : Int) + 1 := IntWalk.i64_in _ (by omega)
            clear hPo hPt hnx hon
            have hn8 : (na : Int) ≤ 8 := by omega
            have hm8 : (nb : Int) ≤ 8 := by omega
            clear hbd hbd2
            generalize (ed + 1) % na = m at *
            generalize vx a ed = s at *
            generalize nx a ed = t at *
            generalize vx b k = q at *
            obtain ⟨s1, s2⟩ := s
            obtain ⟨t1, t2⟩ := t
            obtain ⟨q1, q2⟩ := q
            unfold pv at HT
            dsimp only at c0 c1 d0 d1 f0 f1 HT
            generalize turn (s1, s2) (t1, t2) (q1, q2) = tt at *
            have hmb : (m : Int) < na := by omega
            go_wp2_with fail
            refine (wpIn_wide (n := 5)).1 ?_
            refine wpIn_region_T (fun w' => Below wr.drew.heap.size wr.drew w') 16 (by kernel_rfl) ?_
            have hd : Below wr.heap.size wr wr.drew := (Below.refl _ _).drew
            generalize wr.drew = wd at *
            have c0 := keptBelow hd c0
            have c1 := keptBelow hd c1
            have d0 := keptBelow hd d0
            have d1 := keptBelow hd d1
            have f0 := keptBelow hd f0
            have f1 := keptBelow hd f1
            refine wpT_tk 0 133 (v := ?_) (Below.refl _ _) rfl rfl (by rfl) (hy := fun w hw => ?_) (h := ?_)
            rotate_left
            · go_simp; with_reducible rfl
            try simp only [Act.put, List.setIfInBounds_toArray, List.set_cons_zero, List.set_cons_succ]
            refine wpT_tk 1 134 (v := ?_) (Below.refl _ _) rfl rfl (by rfl) (hy := fun w hw => ?_) (h := ?_)
            rotate_left
            · go_simp; with_reducible rfl
            try simp only [Act.put, List.setIfInBounds_toArray, List.set_cons_zero, List.set_cons_succ]
            refine wpT_tk 2 135 (v := ?_) (Below.refl _ _) rfl rfl (by rfl) (hy := fun w hw => ?_) (h := ?_)
            rotate_left
            · go_simp; with_reducible rfl
            try simp only [Act.put, List.setIfInBounds_toArray, List.set_cons_zero, List.set_cons_succ]
            refine wpT_tk 3 136 (v := ?_) (Below.refl _ _) rfl rfl (by rfl) (hy := fun w hw => ?_) (h := ?_)
            rotate_left
            · have c0 := keptBelow hw c0; have c1 := keptBelow hw c1; go_simp; with_reducible rfl
            try simp only [Act.put, List.setIfInBounds_toArray, List.set_cons_zero, List.set_cons_succ]
            refine wpT_tk 4 137 (v := ?_) (Below.refl _ _) rfl rfl (by rfl) (hy := fun w hw => ?_) (h := ?_)
            rotate_left
            · go_simp; with_reducible rfl
            try simp only [Act.put, List.setIfInBounds_toArray, List.set_cons_zero, List.set_cons_succ]
            refine wpT_tk 5 138 (v := ?_) (Below.refl _ _) rfl rfl (by rfl) (hy := fun w hw => ?_) (h := ?_)
            rotate_left
            · go_simp; with_reducible rfl
            try simp only [Act.put, List.setIfInBounds_toArray, List.set_cons_zero, List.set_cons_succ]
            refine wpT_tk 6 139 (v := ?_) (Below.refl _ _) rfl rfl (by rfl) (hy := fun w hw => ?_) (h := ?_)
            rotate_left
            · go_simp; with_reducible rfl
            try simp only [Act.put, List.setIfInBounds_toArray, List.set_cons_zero, List.set_cons_succ]
            refine wpT_tk 7 140 (v := ?_) (Below.refl _ _) rfl rfl (by rfl) (hy := fun w hw => ?_) (h := ?_)
            rotate_left
            · go_simp; with_reducible rfl
            try simp only [Act.put, List.setIfInBounds_toArray, List.set_cons_zero, List.set_cons_succ]
            refine wpT_tk 8 141 (v := ?_) (Below.refl _ _) rfl rfl (by rfl) (hy := fun w hw => ?_) (h := ?_)
            rotate_left
            · go_simp; with_reducible rfl
            try simp only [Act.put, List.setIfInBounds_toArray, List.set_cons_zero, List.set_cons_succ]
            refine wpT_tk 9 142 (v := ?_) (Below.refl _ _) rfl rfl (by rfl) (hy := fun w hw => ?_) (h := ?_)
            rotate_left
            · go_simp; with_reducible rfl
            try simp only [Act.put, List.setIfInBounds_toArray, List.set_cons_zero, List.set_cons_succ]
            refine wpT_tk 10 143 (v := ?_) (Below.refl _ _) rfl rfl (by rfl) (hy := fun w hw => ?_) (h := ?_)
            rotate_left
            · go_simp; with_reducible rfl
            try simp only [Act.put, List.setIfInBounds_toArray, List.set_cons_zero, List.set_cons_succ]
            refine wpT_tk 11 144 (v := ?_) (Below.refl _ _) rfl rfl (by rfl) (hy := fun w hw => ?_) (h := ?_)
            rotate_left
            · have d0 := keptBelow hw d0; have d1 := keptBelow hw d1; go_simp; with_reducible rfl
            try simp only [Act.put, List.setIfInBounds_toArray, List.set_cons_zero, List.set_cons_succ]
            refine wpT_tk 12 145 (v := ?_) (Below.refl _ _) rfl rfl (by rfl) (hy := fun w hw => ?_) (h := ?_)
            rotate_left
            · go_simp; with_reducible rfl
            try simp only [Act.put, List.setIfInBounds_toArray, List.set_cons_zero, List.set_cons_succ]
            refine wpT_tk 13 146 (v := ?_) (Below.refl _ _) rfl rfl (by rfl) (hy := fun w hw => ?_) (h := ?_)
            rotate_left
            · go_simp; with_reducible rfl
            try simp only [Act.put, List.setIfInBounds_toArray, List.set_cons_zero, List.set_cons_succ]
            refine wpT_tk 14 147 (v := ?_) (Below.refl _ _) rfl rfl (by rfl) (hy := fun w hw => ?_) (h := ?_)
            rotate_left
            · go_simp; with_reducible rfl
            try simp only [Act.put, List.setIfInBounds_toArray, List.set_cons_zero, List.set_cons_succ]
            refine wpT_tk 15 148 (v := ?_) (Below.refl _ _) rfl rfl (by rfl) (hy := fun w hw => ?_) (h := ?_)
            rotate_left
            · have f0 := keptBelow hw f0; have f1 := keptBelow hw f1; go_simp; with_reducible rfl
            try simp only [Act.put, List.setIfInBounds_toArray, List.set_cons_zero, List.set_cons_succ]
            refine wpT_one 16 rfl rfl (by kernel_rfl) ?_
            go_simp
            refine ⟨trivial, ?_⟩
            refine (callsIn_wide.2 (HT.out wd)).mono ?_
            rintro e u3 ⟨rfl, hB3⟩
            refine wpT_one 17 rfl rfl (by kernel_rfl) ?_
            go_simp
            refine wpT_done (by kernel_rfl) ?_ _
            have HB5 := Lib.hid (belowStep HBr.out (belowStep hd hB3))
            go_wp2_with fail
            go_roundw
            case rel => exact ⟨k + 1, by omega, by go_num, HB5.out⟩
            case measure => simp [intOf]; omega
          · obtain rfl : nb = k := by omega
            go_wp2_with fail
            go_ret
            exact ⟨rfl, belowStep HBW.out HBZ.out⟩
      · have HS2 := Lib.hid (And.intro h1 h2)
        clear HSS
        clear h2
        have hedb : (ed : Int) < nb := by have := HB.out.hn; omega
        have hedn : ¬ ((nb : Int) ≤ ed) := by omega
        go_upto_region 20 with fail
        go_wp2_with fail
        go_loopw [20] (fun i wr => ∃ k : Nat, k ≤ na ∧ i = .int .i64 k ∧ Below wc.heap.size wc wr) (fun i _ => na - (intOf i).toNat)
        case atStart => exact ⟨0, by omega, rfl, Below.refl _ _⟩
        case round =>
          obtain ⟨k, hk, rfl, hB⟩ := hrel
          have HBr := Lib.hid hB
          have HBZ := Lib.hid (belowStep HB12.out hB)
          clear hB
          by_cases hlt : k < na
          · have hlt' : (k : Int) < na := by omega
            have hbd := HB.out.bd
            have hbd2 := HA.out.bd
            have hed : ed < nb := by omega
            have hkm : (ed + 1) % nb < nb := Nat.mod_lt _ (by omega)
            have hrem : ((ed : Int) + 1).tmod nb = (((ed + 1) % nb : Nat) : Int) := by rw [Int.tmod_eq_emod_of_nonneg (by omega)]; simp
            have hPo := HB.out.via HBZ.out
            have hPt := HA.out.via HBZ.out
            obtain ⟨c0, c1⟩ := hPo.cells hed
            obtain ⟨d0, d1⟩ := hPo.cells hkm
            obtain ⟨f0, f1⟩ := hPt.cells hlt
            have hnx : vx b ((ed + 1) % nb) = nx b ed := by unfold nx; rw [HB.out.hn]
            rw [hnx] at d0 d1
            have hon : On (nx b ed) := by rw [← hnx]; exact HB.out.v.on _ (by rw [← HB.out.hn]; exact hkm)
            have HT := Lib.hid (turnR_w (vx b ed) (nx b ed) (vx a k) (on_sml (HB.out.v.on ed (by rw [← HB.out.hn]; exact hed))) (on_sml hon) (on_sml (HA.out.v.on k (by rw [← HA.out.hn]; exact hlt))))
            have hle := HS2.out.2 (vx a k) (vx_mem (by rw [← HA.out.hn]; exact hlt))
            have hn0ne : ¬ nb = 0 := by omega
            have hw1 : IntKind.i64.wrap ((ed : Int) + 1) = (ed : Int) + 1 := IntWalk.i64_in _ (by omega)
            clear hPo hPt hnx hon
            have hn8 : (nb : Int) ≤ 8 := by omega
            have hm8 : (na : Int) ≤ 8 := by omega
            clear hbd hbd2
            generalize (ed + 1) % nb = m at *
            generalize vx b ed = s at *
            generalize nx b ed = t at *
            generalize vx a k = q at *
            obtain ⟨s1, s2⟩ := s
            obtain ⟨t1, t2⟩ := t
            obtain ⟨q1, q2⟩ := q
            unfold pv at HT
            dsimp only at c0 c1 d0 d1 f0 f1 HT
            generalize turn (s1, s2) (t1, t2) (q1, q2) = tt at *
            have hmb : (m : Int) < nb := by omega
            go_wp2_with fail
            refine (wpIn_wide (n := 5)).1 ?_
            refine wpIn_region_T (fun w' => Below wr.drew.heap.size wr.drew w') 16 (by kernel_rfl) ?_
            have hd : Below wr.heap.size wr wr.drew := (Below.refl _ _).drew
            generalize wr.drew = wd at *
            have c0 := keptBelow hd c0
            have c1 := keptBelow hd c1
            have d0 := keptBelow hd d0
            have d1 := keptBelow hd d1
            have f0 := keptBelow hd f0
            have f1 := keptBelow hd f1
            refine wpT_tk 0 133 (v := ?_) (Below.refl _ _) rfl rfl (by rfl) (hy := fun w hw => ?_) (h := ?_)
            rotate_left
            · go_simp; with_reducible rfl
            try simp only [Act.put, List.setIfInBounds_toArray, List.set_cons_zero, List.set_cons_succ]
            refine wpT_tk 1 134 (v := ?_) (Below.refl _ _) rfl rfl (by rfl) (hy := fun w hw => ?_) (h := ?_)
            rotate_left
            · go_simp; with_reducible rfl
            try simp only [Act.put, List.setIfInBounds_toArray, List.set_cons_zero, List.set_cons_succ]
            refine wpT_tk 2 135 (v := ?_) (Below.refl _ _) rfl rfl (by rfl) (hy := fun w hw => ?_) (h := ?_)
            rotate_left
            · go_simp; with_reducible rfl
            try simp only [Act.put, List.setIfInBounds_toArray, List.set_cons_zero, List.set_cons_succ]
            refine wpT_tk 3 136 (v := ?_) (Below.refl _ _) rfl rfl (by rfl) (hy := fun w hw => ?_) (h := ?_)
            rotate_left
            · have c0 := keptBelow hw c0; have c1 := keptBelow hw c1; go_simp; with_reducible rfl
            try simp only [Act.put, List.setIfInBounds_toArray, List.set_cons_zero, List.set_cons_succ]
            refine wpT_tk 4 137 (v := ?_) (Below.refl _ _) rfl rfl (by rfl) (hy := fun w hw => ?_) (h := ?_)
            rotate_left
            · go_simp; with_reducible rfl
            try simp only [Act.put, List.setIfInBounds_toArray, List.set_cons_zero, List.set_cons_succ]
            refine wpT_tk 5 138 (v := ?_) (Below.refl _ _) rfl rfl (by rfl) (hy := fun w hw => ?_) (h := ?_)
            rotate_left
            · go_simp; with_reducible rfl
            try simp only [Act.put, List.setIfInBounds_toArray, List.set_cons_zero, List.set_cons_succ]
            refine wpT_tk 6 139 (v := ?_) (Below.refl _ _) rfl rfl (by rfl) (hy := fun w hw => ?_) (h := ?_)
            rotate_left
            · go_simp; with_reducible rfl
            try simp only [Act.put, List.setIfInBounds_toArray, List.set_cons_zero, List.set_cons_succ]
            refine wpT_tk 7 140 (v := ?_) (Below.refl _ _) rfl rfl (by rfl) (hy := fun w hw => ?_) (h := ?_)
            rotate_left
            · go_simp; with_reducible rfl
            try simp only [Act.put, List.setIfInBounds_toArray, List.set_cons_zero, List.set_cons_succ]
            refine wpT_tk 8 141 (v := ?_) (Below.refl _ _) rfl rfl (by rfl) (hy := fun w hw => ?_) (h := ?_)
            rotate_left
            · go_simp; with_reducible rfl
            try simp only [Act.put, List.setIfInBounds_toArray, List.set_cons_zero, List.set_cons_succ]
            refine wpT_tk 9 142 (v := ?_) (Below.refl _ _) rfl rfl (by rfl) (hy := fun w hw => ?_) (h := ?_)
            rotate_left
            · go_simp; with_reducible rfl
            try simp only [Act.put, List.setIfInBounds_toArray, List.set_cons_zero, List.set_cons_succ]
            refine wpT_tk 10 143 (v := ?_) (Below.refl _ _) rfl rfl (by rfl) (hy := fun w hw => ?_) (h := ?_)
            rotate_left
            · go_simp; with_reducible rfl
            try simp only [Act.put, List.setIfInBounds_toArray, List.set_cons_zero, List.set_cons_succ]
            refine wpT_tk 11 144 (v := ?_) (Below.refl _ _) rfl rfl (by rfl) (hy := fun w hw => ?_) (h := ?_)
            rotate_left
            · have d0 := keptBelow hw d0; have d1 := keptBelow hw d1; go_simp; with_reducible rfl
            try simp only [Act.put, List.setIfInBounds_toArray, List.set_cons_zero, List.set_cons_succ]
            refine wpT_tk 12 145 (v := ?_) (Below.refl _ _) rfl rfl (by rfl) (hy := fun w hw => ?_) (h := ?_)
            rotate_left
            · go_simp; with_reducible rfl
            try simp only [Act.put, List.setIfInBounds_toArray, List.set_cons_zero, List.set_cons_succ]
            refine wpT_tk 13 146 (v := ?_) (Below.refl _ _) rfl rfl (by rfl) (hy := fun w hw => ?_) (h := ?_)
            rotate_left
            · go_simp; with_reducible rfl
            try simp only [Act.put, List.setIfInBounds_toArray, List.set_cons_zero, List.set_cons_succ]
            refine wpT_tk 14 147 (v := ?_) (Below.refl _ _) rfl rfl (by rfl) (hy := fun w hw => ?_) (h := ?_)
            rotate_left
            · go_simp; with_reducible rfl
            try simp only [Act.put, List.setIfInBounds_toArray, List.set_cons_zero, List.set_cons_succ]
            refine wpT_tk 15 148 (v := ?_) (Below.refl _ _) rfl rfl (by rfl) (hy := fun w hw => ?_) (h := ?_)
            rotate_left
            · have f0 := keptBelow hw f0; have f1 := keptBelow hw f1; go_simp; with_reducible rfl
            try simp only [Act.put, List.setIfInBounds_toArray, List.set_cons_zero, List.set_cons_succ]
            refine wpT_one 16 rfl rfl (by kernel_rfl) ?_
            go_simp
            refine ⟨trivial, ?_⟩
            refine (callsIn_wide.2 (HT.out wd)).mono ?_
            rintro e u3 ⟨rfl, hB3⟩
            refine wpT_one 17 rfl rfl (by kernel_rfl) ?_
            go_simp
            refine wpT_done (by kernel_rfl) ?_ _
            have HB5 := Lib.hid (belowStep HBr.out (belowStep hd hB3))
            go_wp2_with fail
            go_roundw
            case rel => exact ⟨k + 1, by omega, by go_num, HB5.out⟩
            case measure => simp [intOf]; omega
          · obtain rfl : na = k := by omega
            go_wp2_with fail
            go_ret
            exact ⟨rfl, belowStep HBW.out HBZ.out⟩
end Go.Proofs.Ytliligehofjegaa
