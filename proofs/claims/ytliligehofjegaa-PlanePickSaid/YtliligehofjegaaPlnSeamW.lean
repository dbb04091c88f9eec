/- The contract of Seam. -/
import Derived.Test.YtliligehofjegaaPlnSeam
namespace Go.Proofs.Ytliligehofjegaa
open Go.RowKit Go.Shelf Pln

/-- What Seam returns. -/
def seamV : Option (Pt × Pt) → Value
  | some s => .tuple #[sv s, .bool true]
  | none => .tuple #[sv ((0, 0), (0, 0)), .bool false]
theorem seam_off {a b : List Pt} (h : sideP a b = none) : seamP a b = none := by unfold seamP; rw [h]; rfl
theorem seam_all {a b : List Pt} (h : ∀ j, j < (comP a b).length → vx (comP a b) j = vx (comP a b) 0) : seamP a b = none := by
  unfold seamP
  split
  · rcases e : comP a b with _ | ⟨f, r⟩
    · rfl
    · rw [e] at h
      have : (f :: r).find? (fun c => decide (f ≠ c)) = none := by
        rw [List.find?_eq_none]
        intro x hx
        obtain ⟨j, hj, rfl⟩ := mem_vx hx
        rw [h j hj]
        have : vx (f :: r) 0 = f := rfl
        rw [this]; simp
      simp only [this]
  · rfl
theorem seam_at {a b : List Pt} (hs : (sideP a b).isSome = true) {k : Nat} (hk : k < (comP a b).length) (hne : vx (comP a b) 0 ≠ vx (comP a b) k) (h : ∀ j, j < k → vx (comP a b) j = vx (comP a b) 0) : seamP a b = some (dirP (vx (comP a b) 0) (vx (comP a b) k) a) := by
  unfold seamP
  rw [if_pos hs]
  rcases e : comP a b with _ | ⟨f, r⟩
  · rw [e] at hk; simp at hk
  · rw [e] at hk hne h
    have e0 : vx (f :: r) 0 = f := rfl
    rw [e0] at hne h ⊢
    have : (f :: r).find? (fun c => decide (f ≠ c)) = some (vx (f :: r) k) := by
      rw [List.find?_eq_some_iff_getElem]
      refine ⟨by simpa using hne, k, hk, (vx_eq hk).symm, fun j hj => ?_⟩
      have := h j hj
      rw [vx_eq (by omega)] at this
      rw [this]; simp
    simp only [this]
theorem seam_end {w W : World} {x0 x1 x2 x3 : Int} {y : Bool} {tm : Array Value} {o : Option (Pt × Pt)} (hz : W.heap[w.heap.size + 1 + 1]? = some (.cells #[.int .i64 0, .int .i64 0, .int .i64 0, .int .i64 0] 48 (0, 0))) (hB : Below w.heap.size w W) (ho : seamV o = .tuple #[.agg #[.int .i64 x0, .int .i64 x1, .int .i64 x2, .int .i64 x3], .bool y])
    (h4 : tm[4]?.getD undef = .pointer (some ⟨w.heap.size + 1 + 1, 0, none⟩) := by rfl) (h5 : tm[5]?.getD undef = .bool y := by rfl) :
    bodyPost Try.prog Try.f22 (fun e w' => e = .returned (seamV o) ∧ Below w.heap.size w w') .ret { tmps := tm, defers := [] }
      ((((W.setCell ⟨w.heap.size + 1 + 1, 0, none⟩ (.int .i64 x0)).setCell ⟨w.heap.size + 1 + 1, 1, none⟩ (.int .i64 x1)).setCell ⟨w.heap.size + 1 + 1, 2, none⟩ (.int .i64 x2)).setCell ⟨w.heap.size + 1 + 1, 3, none⟩ (.int .i64 x3)) := by
  have z0 := cell_heap hz (i := 0) rfl
  have z1 := cell_heap hz (i := 1) rfl
  have z2 := cell_heap hz (i := 2) rfl
  have z3 := cell_heap hz (i := 3) rfl
  refine bodyPost_ret (v := .tuple #[.agg #[.int .i64 x0, .int .i64 x1, .int .i64 x2, .int .i64 x3], .bool y]) (by simp [results, Try.results22, go_sem, h4, h5, z0, z1, z2, z3]) rfl ⟨by rw [ho], ?_⟩
  exact (((hB.setCell (p := ⟨w.heap.size + 1 + 1, 0, none⟩) (by simp; omega) _).setCell (p := ⟨w.heap.size + 1 + 1, 1, none⟩) (by simp; omega) _).setCell (p := ⟨w.heap.size + 1 + 1, 2, none⟩) (by simp; omega) _).setCell (p := ⟨w.heap.size + 1 + 1, 3, none⟩) (by simp; omega) _
set_option maxRecDepth 100000 in
set_option maxHeartbeats 4000000 in
theorem seam_w (a b : List Pt) (ha : Len a) (hb : Len b) (va vb : Value) (w : World) (hva : PtsAt w va a) (hvb : PtsAt w vb b) :
    Calls Try.prog 22 #[va, vb] w fun e w' => e = .returned (seamV (seamP a b)) ∧ Below w.heap.size w w' := by
  have HS := Lib.hid (fun w1 (h : Below w.heap.size w w1) => side_w a b ha hb va vb w1 (hva.via h) (hvb.via h))
  have hb0 := (((Below.refl _ w).alloc (Nat.le_refl _) (.cells #[va] 23)).alloc (by simp) (.cells #[vb] 23)).alloc (by simp; omega) (.cells #[.int .i64 0, .int .i64 0, .int .i64 0, .int .i64 0] 48)
  have k0 : (((w.alloc (.cells #[va] 23)).alloc (.cells #[vb] 23)).alloc (.cells #[.int .i64 0, .int .i64 0, .int .i64 0, .int .i64 0] 48)).cell? ⟨w.heap.size, 0, none⟩ = some va := cellA _ (cellA _ (cell_rowN w _ _ 0 rfl))
  have k1 : (((w.alloc (.cells #[va] 23)).alloc (.cells #[vb] 23)).alloc (.cells #[.int .i64 0, .int .i64 0, .int .i64 0, .int .i64 0] 48)).cell? ⟨w.heap.size + 1, 0, none⟩ = some vb := by
    have := cell_rowN (w.alloc (.cells #[va] 23)) #[vb] 23 0 rfl
    rw [World.size_alloc] at this
    exact cellA _ this
  have zb : (((w.alloc (.cells #[va] 23)).alloc (.cells #[vb] 23)).alloc (.cells #[.int .i64 0, .int .i64 0, .int .i64 0, .int .i64 0] 48)).heap[w.heap.size + 1 + 1]? = some (.cells #[.int .i64 0, .int .i64 0, .int .i64 0, .int .i64 0] 48 (0, 0)) := by
    have := heap_alloc_new ((w.alloc (.cells #[va] 23)).alloc (.cells #[vb] 23)) (.cells #[.int .i64 0, .int .i64 0, .int .i64 0, .int .i64 0] 48)
    rwa [World.size_alloc, World.size_alloc] at this
  have HB0 := Lib.hid hb0
  have HK0 := Lib.hid k0
  have HK1 := Lib.hid k1
  have HZ := Lib.hid zb
  obtain ⟨⟨aa, ca, rfl, _, _, _⟩, _⟩ := id hva
  obtain ⟨⟨ab, cb, rfl, _, _, _⟩, _⟩ := id hvb
  have HVA := Lib.hid hva
  have HVB := Lib.hid hvb
  obtain ⟨na, hna⟩ : ∃ na, na = a.length := ⟨_, rfl⟩
  obtain ⟨nb, hnb⟩ : ∃ nb, nb = b.length := ⟨_, rfl⟩
  rw [← hna] at HS HVA HK0 HK1 HZ HB0 ⊢
  rw [← hnb] at HS HVB HK0 HK1 HZ HB0 ⊢
  clear hb0 k0 k1 zb hva hvb
  rcases hs : sideP a b with _ | ⟨n, i⟩
  · have HR := Lib.hid (seam_off hs)
    rw [hs] at HS
    simp only [sideV] at HS
    clear hs hna hnb
    go_enter Try.func22, Try.ntmps22
    go_wp2_with fail
    refine (HS.out _ HB0.out).mono ?_
    rintro e w3 ⟨rfl, hB3⟩
    have hz := heap_below hB3 HZ.out
    have z0 := cell_heap hz (i := 0) rfl
    have z1 := cell_heap hz (i := 1) rfl
    have z2 := cell_heap hz (i := 2) rfl
    have z3 := cell_heap hz (i := 3) rfl
    have f0 := frozen_of_row _ _ 0 _ _ hz
    have f1 := frozen_of_row _ _ 1 _ _ hz
    have f2 := frozen_of_row _ _ 2 _ _ hz
    have f3 := frozen_of_row _ _ 3 _ _ hz
    have HBB := Lib.hid (belowStep HB0.out hB3)
    have HZ3 := Lib.hid hz
    clear hz hB3
    go_wp2_with fail
    exact seam_end HZ3.out HBB.out (by rw [HR.out]; rfl)
  · have hsome : (sideP a b).isSome = true := by rw [hs]; rfl
    have hval : valB a = true ∧ valB b = true := by
      rcases h1 : valB a with _ | _
      · rw [side_no_l h1] at hs; cases hs
      · rcases h2 : valB b with _ | _
        · rw [side_no_r h2] at hs; cases hs
        · exact ⟨rfl, rfl⟩
    have v1 := (valB_iff a).1 hval.1
    have v2 := (valB_iff b).1 hval.2
    rw [hs] at HS
    simp only [sideV] at HS
    have hon : ∀ q ∈ a ++ b, Sml q := fun q hq => by
      rcases List.mem_append.1 hq with h | h
      · obtain ⟨j, hj, rfl⟩ := mem_vx h; exact val_smls v1 j hj
      · obtain ⟨j, hj, rfl⟩ := mem_vx h; exact val_smls v2 j hj
    have hokc : PtsOk (a ++ b) := both_ok HVA.out.ok HVB.out.ok
    have HCC := Lib.hid (fun G w1 (hB : Below w.heap.size w w1) c0 c1 => concat_w a b (by have := v1.lo; omega) (by have := v2.lo; omega) (by have := v1.hi; omega) (by have := v2.hi; omega) _ _ G 2 w1 (HVA.out.via hB) (HVB.out.via hB) c0 c1)
    have HD := Lib.hid (fun (w1 : World) (hB : Below w.heap.size w w1) (c0 : w1.cell? ⟨w.heap.size, 0, none⟩ = some (.slice aa na ca)) (c1 : w1.cell? ⟨w.heap.size + 1, 0, none⟩ = some (.slice ab nb cb)) (r : Value) (w2 : World) (hB2 : Below w1.heap.size w1 w2) (hown : w2.ownsRow w1.heap.size 26 2 r (a ++ b).length (cellsP (a ++ b))) =>
      delete_w w1 (a ++ b) (by rw [List.length_append]; have := v1.hi; have := v2.hi; omega) (by rw [List.length_append]; have := v1.lo; omega) (offP a b) 55 #[.pointer (some ⟨w.heap.size, 0, none⟩), .pointer (some ⟨w.heap.size + 1, 0, none⟩)] (enters_of Try.func55 (by kernel_rfl) rfl) r w2 hB2 hown hokc
        (fun q hq w3 hB3 => off_w a b v1 v2 q (hon q hq) _ _ _ _ w3 (keptBelow hB3 c0) (keptBelow hB3 c1) (HVA.out.via (belowStep hB hB3)) (HVB.out.via (belowStep hB hB3))))
    rw [← com_off] at HD
    have hcm : ∀ q ∈ comP a b, Sml q := fun q hq => hon q (by unfold comP at hq; exact (List.mem_filter.1 hq).1)
    have HDR := Lib.hid (fun s e (hs : Sml s) (he : Sml e) w1 (hB : Below w.heap.size w w1) => directed_w s e a hs he (by have := v1.hi; omega) (val_smls v1) _ w1 (HVA.out.via hB))
    have HALL := Lib.hid (seam_all (a := a) (b := b))
    have HAT := Lib.hid (fun k => seam_at (a := a) (b := b) hsome (k := k))
    have HCM := Lib.hid hcm
    have hlc : (comP a b).length ≤ 16 := by
      have : (comP a b).length ≤ (a ++ b).length := List.length_filter_le _ _
      rw [List.length_append] at this; have := v1.hi; have := v2.hi; omega
    generalize comP a b = com at *
    clear hs hna hnb hval v1 v2 hon hokc hcm hsome
    go_enter Try.func22, Try.ntmps22
    go_wp2_with fail
    refine (HS.out _ HB0.out).mono ?_
    rintro e w3 ⟨rfl, hB3⟩
    have k0 := keptBelow hB3 HK0.out
    have k1 := keptBelow hB3 HK1.out
    have HZ3 := Lib.hid (heap_below hB3 HZ.out)
    have hB3 := belowStep HB0.out hB3
    have HK0' := Lib.hid k0
    have HK1' := Lib.hid k1
    have HB3 := Lib.hid hB3
    clear hB3
    go_wp2_with fail
    have hb4 := alloc_below w3 (.cells #[.slice aa na ca, .slice ab nb cb] 23)
    have hb4w := belowStep HB3.out hb4
    have HC4 := Lib.hid (HCC.out w3.heap.size _ hb4w (cell_rowN w3 _ _ 0 rfl) (cell_rowN w3 _ _ 1 rfl))
    have HD4 := Lib.hid (HD.out _ hb4w (keptBelow hb4 HK0'.out) (keptBelow hb4 HK1'.out))
    have HB4 := Lib.hid hb4
    clear hb4 hb4w k0 k1
    refine HC4.out.mono ?_
    rintro e w5 ⟨r, rfl, hown, hB5⟩
    have HD5 := Lib.hid (HD4.out r w5 hB5 hown)
    clear hown hB5
    go_wp2_with fail
    refine HD5.out.mono ?_
    rintro e w6 ⟨rc, rfl, hrc, hB6⟩
    have HB6 := Lib.hid (belowStep HB4.out hB6)
    obtain ⟨⟨ac, cc, rfl, _, _, _⟩, _⟩ := id hrc
    have HRC := Lib.hid hrc
    obtain ⟨nc, hnc⟩ : ∃ nc, nc = com.length := ⟨_, rfl⟩
    rw [← hnc] at HRC hlc HALL HAT ⊢
    have hlcb : (nc : Int) ≤ 16 := by omega
    have HNC := Lib.hid hnc
    clear hrc hB6 hnc
    have HK06 := Lib.hid (keptBelow HB6.out HK0'.out)
    have HZ6 := Lib.hid (heap_below HB6.out HZ3.out)
    have HBW := Lib.hid (belowStep HB3.out HB6.out)
    go_wp2_with fail
    go_loopw [31] (fun i wr => ∃ k : Nat, k ≤ nc ∧ i = .int .i64 k ∧ (∀ j, j < k → vx com j = vx com 0) ∧ Below w6.heap.size w6 wr) (fun i _ => nc - (intOf i).toNat)
    case atStart => exact ⟨0, by omega, rfl, fun j hj => by omega, Below.refl _ _⟩
    case round =>
      obtain ⟨k, hk, rfl, hj, hBr⟩ := hrel
      have HJ := Lib.hid hj
      clear hj
      have HBr := Lib.hid hBr
      have HZr := Lib.hid (heap_below hBr HZ6.out)
      have HBWr := Lib.hid (belowStep HBW.out hBr)
      by_cases hlt : k < nc
      · have hlt' : (k : Int) < nc := by omega
        have hkl : k < com.length := by rw [← HNC.out]; exact hlt
        have h0l : 0 < com.length := by omega
        have hv2 := HRC.out.via hBr
        obtain ⟨⟨a', c', he, _, _, hin⟩, _⟩ := hv2
        rw [← HNC.out] at he
        cases he
        obtain ⟨g', o, rfl, c0, c1⟩ := hin.get hkl
        obtain ⟨g'', o'', he, d0, d1⟩ := hin.get h0l
        cases he
        rw [Nat.zero_mul, Nat.add_zero] at d0 d1
        have k0 := keptBelow hBr HK06.out
        have hsc := HCM.out _ (vx_mem hkl)
        have hsf := HCM.out _ (vx_mem h0l)
        have hn0 : 0 < nc := by omega
        have HA2 := Lib.hid (HAT.out k hlt)
        have HJ2 : Hid (vx com k = vx com 0 → ∀ j, j < k + 1 → vx com j = vx com 0) := Lib.hid (fun h => snoc_all HJ.out h)
        have HDR2 := Lib.hid (fun w1 (hB : Below w.heap.size w w1) => HDR.out (vx com 0) (vx com k) hsf hsc w1 hB)
        clear hin hsc hsf hBr hkl h0l
        generalize vx com k = c at *
        generalize vx com 0 = f at *
        obtain ⟨c1', c2'⟩ := c
        obtain ⟨f1, f2⟩ := f
        dsimp only at c0 c1 d0 d1 HDR2 HA2 HJ2
        go_wp2_with fail
        have x0 : ((wr.alloc (.cells #[.int .i64 c1', .int .i64 c2'] 26)).drew).cell? ⟨wr.heap.size, 0, none⟩ = some (.int .i64 c1') := cell_rowN wr _ _ 0 rfl
        have x1 : ((wr.alloc (.cells #[.int .i64 c1', .int .i64 c2'] 26)).drew).cell? ⟨wr.heap.size, 1, none⟩ = some (.int .i64 c2') := cell_rowN wr _ _ 1 rfl
        have hBd : Below wr.heap.size wr ((wr.alloc (.cells #[.int .i64 c1', .int .i64 c2'] 26)).drew) := (alloc_below wr _).drew
        have d0 := keptBelow hBd d0
        have d1 := keptBelow hBd d1
        have k0 := keptBelow hBd k0
        refine (wpIn_wide (n := 5)).1 ?_
        refine wpIn_region_T (fun w' => Below ((wr.alloc (.cells #[.int .i64 c1', .int .i64 c2'] 26)).drew).heap.size ((wr.alloc (.cells #[.int .i64 c1', .int .i64 c2'] 26)).drew) w') 6 (by kernel_rfl) ?_
        generalize ((wr.alloc (.cells #[.int .i64 c1', .int .i64 c2'] 26)).drew) = wd at *
        refine wpT_tk 0 35 (v := ?_) (Below.refl _ _) rfl rfl (by rfl) (hy := fun w hw => ?_) (h := ?_)
        rotate_left
        · go_simp; with_reducible rfl
        try simp only [Act.put, List.setIfInBounds_toArray, List.set_cons_zero, List.set_cons_succ]
        refine wpT_tk 1 36 (v := ?_) (Below.refl _ _) rfl rfl (by rfl) (hy := fun w hw => ?_) (h := ?_)
        rotate_left
        · go_simp; with_reducible rfl
        try simp only [Act.put, List.setIfInBounds_toArray, List.set_cons_zero, List.set_cons_succ]
        refine wpT_tk 2 37 (v := ?_) (Below.refl _ _) rfl rfl (by rfl) (hy := fun w hw => ?_) (h := ?_)
        rotate_left
        · have d0 := keptBelow hw d0; have d1 := keptBelow hw d1; go_simp; with_reducible rfl
        try simp only [Act.put, List.setIfInBounds_toArray, List.set_cons_zero, List.set_cons_succ]
        refine wpT_tk 3 38 (v := ?_) (Below.refl _ _) rfl rfl (by rfl) (hy := fun w hw => ?_) (h := ?_)
        rotate_left
        · have x0 := keptBelow hw x0; have x1 := keptBelow hw x1; go_simp; with_reducible rfl
        try simp only [Act.put, List.setIfInBounds_toArray, List.set_cons_zero, List.set_cons_succ]
        refine wpT_tk 4 39 (v := ?_) (Below.refl _ _) rfl rfl (by rfl) (hy := fun w hw => ?_) (h := ?_)
        rotate_left
        · go_simp; with_reducible rfl
        try simp only [Act.put, List.setIfInBounds_toArray, List.set_cons_zero, List.set_cons_succ]
        refine wpT_one 5 rfl rfl (by kernel_rfl) ?_
        go_simp
        refine ⟨alloc_below _ _, ?_⟩
        refine wpT_one 6 rfl rfl (by kernel_rfl) ?_
        go_simp
        refine wpT_done (by kernel_rfl) ?_ _
        have HS5 := Lib.hid (belowStep hBd (alloc_below wd (.cells #[.int .i64 f1, .int .i64 f2, .int .i64 c1', .int .i64 c2'] 71)))
        have k0 := keptBelow (alloc_below wd (.cells #[.int .i64 f1, .int .i64 f2, .int .i64 c1', .int .i64 c2'] 71)) k0
        have HK0d := Lib.hid k0
        clear hBd d0 d1 x0 x1 c0 c1
        by_cases hf1 : f1 = c1'
        · subst hf1
          by_cases hf2 : f2 = c2'
          · subst hf2
            have HJ3 := Lib.hid (HJ2.out rfl)
            go_wp2_with fail
            go_roundw
            case rel => exact ⟨k + 1, by omega, by go_num, HJ3.out, belowStep HBr.out HS5.out⟩
            case measure => simp [intOf]; omega
          · have HR := Lib.hid (HA2.out (fun e => hf2 (congrArg Prod.snd e)) HJ.out)
            have HD6 := HDR2.out _ (belowStep HBWr.out HS5.out)
            generalize dirP _ _ a = dd at *
            obtain ⟨⟨p1, p2⟩, q1, q2⟩ := dd
            unfold ev sv at HD6
            dsimp only at HD6
            have HD7 := Lib.hid HD6
            clear HD6
            go_wp2_with fail
            refine HD7.out.mono ?_
            rintro e w9 ⟨rfl, hB9⟩
            have hb9 := belowStep HS5.out hB9
            have hz := heap_below hb9 HZr.out
            have HB9 := Lib.hid (belowStep HBWr.out hb9)
            have HZ9 := Lib.hid hz
            have z0 := cell_heap hz (i := 0) rfl
            have z1 := cell_heap hz (i := 1) rfl
            have z2 := cell_heap hz (i := 2) rfl
            have z3 := cell_heap hz (i := 3) rfl
            have f0 := frozen_of_row _ _ 0 _ _ hz
            have f1 := frozen_of_row _ _ 1 _ _ hz
            have f2 := frozen_of_row _ _ 2 _ _ hz
            have f3 := frozen_of_row _ _ 3 _ _ hz
            clear hz hB9 hb9
            go_wp2_with fail
            exact seam_end HZ9.out HB9.out (by rw [HR.out]; rfl)
        · have HR := Lib.hid (HA2.out (fun e => hf1 (congrArg Prod.fst e)) HJ.out)
          have HD6 := HDR2.out _ (belowStep HBWr.out HS5.out)
          generalize dirP _ _ a = dd at *
          obtain ⟨⟨p1, p2⟩, q1, q2⟩ := dd
          unfold ev sv at HD6
          dsimp only at HD6
          have HD7 := Lib.hid HD6
          clear HD6
          go_wp2_with fail
          refine HD7.out.mono ?_
          rintro e w9 ⟨rfl, hB9⟩
          have hb9 := belowStep HS5.out hB9
          have hz := heap_below hb9 HZr.out
          have HB9 := Lib.hid (belowStep HBWr.out hb9)
          have HZ9 := Lib.hid hz
          have z0 := cell_heap hz (i := 0) rfl
          have z1 := cell_heap hz (i := 1) rfl
          have z2 := cell_heap hz (i := 2) rfl
          have z3 := cell_heap hz (i := 3) rfl
          have f0 := frozen_of_row _ _ 0 _ _ hz
          have f1 := frozen_of_row _ _ 1 _ _ hz
          have f2 := frozen_of_row _ _ 2 _ _ hz
          have f3 := frozen_of_row _ _ 3 _ _ hz
          clear hz hB9 hb9
          go_wp2_with fail
          exact seam_end HZ9.out HB9.out (by rw [HR.out]; rfl)
      · obtain rfl : k = nc := by omega
        have HR := Lib.hid (HALL.out HJ.out)
        clear hBr
        have hz := HZr.out
        have z0 := cell_heap hz (i := 0) rfl
        have z1 := cell_heap hz (i := 1) rfl
        have z2 := cell_heap hz (i := 2) rfl
        have z3 := cell_heap hz (i := 3) rfl
        have f0 := frozen_of_row _ _ 0 _ _ hz
        have f1 := frozen_of_row _ _ 1 _ _ hz
        have f2 := frozen_of_row _ _ 2 _ _ hz
        have f3 := frozen_of_row _ _ 3 _ _ hz
        clear hz
        go_wp2_with fail
        exact seam_end HZr.out HBWr.out (by rw [HR.out]; rfl)
end Go.Proofs.Ytliligehofjegaa
