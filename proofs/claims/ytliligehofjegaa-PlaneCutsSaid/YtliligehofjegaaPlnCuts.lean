/- The walk of PlaneCuts. -/
import Derived.Test.YtliligehofjegaaPlnMoves
import Derived.Test.YtliligehofjegaaPlnCutsI
namespace Pln
/-- What the law of cuts asks, of numbers. -/
structure CutF (l a b : List Pt) (i k : Nat) : Prop where
  va : Val a
  vb : Val b
  len : a.length + b.length = l.length + 2
  over : overP a b = false
  seam : seamP a b = some (vx l k, vx l i)
  area : areaP a + areaP b = areaP l
  mx : mxP a + mxP b = mxP l
  my : myP a + myP b = myP l
  ap1 : ∀ p, On p → ¬ (insP a p = 1 ∧ 0 ≤ insP b p)
  ap2 : ∀ p, On p → ¬ (insP b p = 1 ∧ 0 ≤ insP a p)
  inner : ∀ p, On p → (insP l p = 1 ↔ insP a p = 1 ∨ insP b p = 1 ∨ (insP a p = 0 ∧ insP b p = 0 ∧ p ≠ vx l i ∧ p ≠ vx l k))
theorem cut_f {l a b : List Pt} {i k : Nat} (v : Val l) (h : CutAll l i k a b) : CutF l a b i k := by
  have wa := (valB_iff a).2 h.va
  have wb := (valB_iff b).2 h.vb
  have wl := (valB_iff l).2 v
  refine ⟨h.va, h.vb, h.len, h.over, h.seam, ?_, ?_, ?_, fun p hp => ?_, fun p hp => ?_, fun p hp => ?_⟩
  · unfold areaP; rw [if_pos wa, if_pos wb, if_pos wl]; exact h.sum crs fun p q => by unfold crs; grind
  · unfold mxP; rw [if_pos wa, if_pos wb, if_pos wl]; exact h.sum (fun a b => (a.1 + b.1) * crs a b) fun p q => by unfold crs; grind
  · unfold myP; rw [if_pos wa, if_pos wb, if_pos wl]; exact h.sum (fun a b => (a.2 + b.2) * crs a b) fun p q => by unfold crs; grind
  · rw [insP_eq h.va hp, insP_eq h.vb hp]; exact h.apart1 p
  · rw [insP_eq h.va hp, insP_eq h.vb hp]; exact h.apart2 p
  · rw [insP_eq h.va hp, insP_eq h.vb hp, insP_eq v hp]; exact h.inner p
/-- Which cuts are none, in the law's words. -/
theorem adj_iff {n i k : Nat} : AdjP n i k ↔ (i : Int) = k ∨ ((i : Int) + 1) % n = k ∨ ((k : Int) + 1) % n = i := by
  unfold AdjP
  have e1 : ((i : Int) + 1) % n = (((i + 1) % n : Nat) : Int) := by simp
  have e2 : ((k : Int) + 1) % n = (((k + 1) % n : Nat) : Int) := by simp
  rw [e1, e2]; omega
end Pln
namespace Go.Proofs.Ytliligehofjegaa
open Go.RowKit Go.Shelf Pln
set_option maxRecDepth 100000 in
set_option maxHeartbeats 4000000 in
theorem cuts_w (x : List Pt) (hx : (x.length : Int) ≤ 9223372036854775807) (ii kk px py : Int) (i1 : I64 ii) (i2 : I64 kk) (i3 : I64 px) (i4 : I64 py) (v1 : Value) (w : World) (h1 : PtsAt w v1 x) :
    Calls Try.prog 5 #[v1, .int .i64 ii, .int .i64 kk, .int .i64 px, .int .i64 py] w fun e w' => e = .returned (.bool true) ∧ Below w.heap.size w w' := by
  have HMD := Lib.hid (fun w1 (hB : Below w.heap.size w w1) => made_w x hx 0 40 (by omega) (by omega) (by omega) v1 w1 (h1.via hB))
  have HVL := Lib.hid (made40 x)
  have HKI := Lib.hid (fun (n : Int) (hn : 0 < n) (hn2 : n ≤ 1000) w1 => pickL_w ii n i1 hn hn2 w1)
  have HKK := Lib.hid (fun (n : Int) (hn : 0 < n) (hn2 : n ≤ 1000) w1 => pickL_w kk n i2 hn hn2 w1)
  have HK1 := Lib.hid (fun w1 => pickL_w px 41 i3 (by omega) (by omega) w1)
  have HK2 := Lib.hid (fun w1 => pickL_w py 41 i4 (by omega) (by omega) w1)
  have HOP := Lib.hid (pk_on41 (a := px) (b := py))
  obtain ⟨⟨a1, c1, rfl, _, _, _⟩, _⟩ := h1
  clear hx i1 i2 i3 i4
  generalize x.length = xn at *
  generalize madeP x 0 40 = l at *
  generalize pkN px 41 = p1 at *
  generalize pkN py 41 = p2 at *
  go_enter Try.func5, Try.ntmps5
  go_wp2_with fail
  refine (sane_w _).mono ?_
  rintro e w1 ⟨rfl, hB1⟩
  go_wp2_with fail
  refine (HMD.out _ hB1).mono ?_
  rintro e w2 ⟨r, rfl, hr, hB2⟩
  obtain ⟨gl, ol, cl, n, rfl, hPL⟩ := poly_of hr HVL.out
  have HL := Lib.hid hPL
  have HBW := Lib.hid (belowStep hB1 hB2)
  obtain ⟨hn3, hn8⟩ := hPL.bd
  clear hB1 hB2 hr hPL HMD
  have HKI := Lib.hid (HKI.out n (by omega) (by omega))
  have HKK := Lib.hid (HKK.out n (by omega) (by omega))
  have hpi := pkN_in (c := ii) (n := n) (by omega)
  have hpk := pkN_in (c := kk) (n := n) (by omega)
  generalize pkN ii n = iI at *
  generalize pkN kk n = kI at *
  obtain ⟨i, rfl⟩ : ∃ i : Nat, iI = i := ⟨iI.toNat, by omega⟩
  obtain ⟨k, rfl⟩ : ∃ k : Nat, kI = k := ⟨kI.toNat, by omega⟩
  have hin : i < n := by omega
  have hkn : k < n := by omega
  have hnb : (n : Int) ≤ 8 := by omega
  have hn0 : ¬ n = 0 := by omega
  have HCU := Lib.hid (fun w1 (hB : Below w2.heap.size w2 w1) => cut_w l HL.out.len i k ⟨by omega, by omega⟩ ⟨by omega, by omega⟩ _ w1 (HL.out.at_.via hB))
  have HCP := Lib.hid (cut_parts HVL.out (i := i) (k := k) (by have := HL.out.hn; omega) (by have := HL.out.hn; omega))
  have HCA := Lib.hid (cut_all HVL.out (i := i) (k := k) (by have := HL.out.hn; omega) (by have := HL.out.hn; omega))
  have HAD := Lib.hid (adj_iff (n := n) (i := i) (k := k))
  rw [← HL.out.hn] at HCP HCA
  have hw1 : IntKind.i64.wrap ((i : Int) + 1) = (i : Int) + 1 := IntWalk.i64_in _ (by omega)
  have hw2 : IntKind.i64.wrap ((k : Int) + 1) = (k : Int) + 1 := IntWalk.i64_in _ (by omega)
  have hr1 : ((i : Int) + 1).tmod n = ((i : Int) + 1) % n := Int.tmod_eq_emod_of_nonneg (by omega)
  have hr2 : ((k : Int) + 1).tmod n = ((k : Int) + 1) % n := Int.tmod_eq_emod_of_nonneg (by omega)
  clear hpi hpk
  go_wp2_with fail
  refine (HKI.out _).mono ?_
  rintro e u ⟨rfl, rfl⟩
  go_wp2_with fail
  refine (HKK.out _).mono ?_
  rintro e u ⟨rfl, rfl⟩
  by_cases hadj : AdjP n i k
  · as_aux_lemma =>
    have hnone : cutP l i k = none := by
      rcases HCP.out with ⟨_, h⟩ | ⟨h, _⟩
      · exact h
      · exact absurd hadj h
    rw [hnone] at HCU
    have had := HAD.out.1 hadj
    clear HCP HCA HAD hadj hnone HK1 HK2
    go_wp2_with fail
    refine (HCU.out _ (Below.refl _ _)).mono ?_
    rintro e w3 (⟨_, _, _, _, h0, _⟩ | ⟨_, rfl, hB3⟩)
    · cases h0
    have HB3 := Lib.hid (belowStep HBW.out hB3)
    clear hB3
    by_cases h1 : (i : Int) = k
    · go_wp2_with fail
      go_ret
      exact ⟨rfl, HB3.out⟩
    · have d1 : ((i : Int) == k) = false := by simp [h1]
      have d2 : decide ((i : Int) = k) = false := decide_eq_false h1
      by_cases h2 : ((i : Int) + 1) % n = k
      · go_wp2_with fail
        go_ret
        exact ⟨rfl, HB3.out⟩
      · have d3 : (((i : Int) + 1) % n == k) = false := by simp [h2]
        have d4 : decide (((i : Int) + 1) % n = k) = false := decide_eq_false h2
        have h3 : ((k : Int) + 1) % n = i := by omega
        go_wp2_with fail
        go_ret
        exact ⟨rfl, HB3.out⟩
  · obtain ⟨a, b, hcut, hall⟩ := HCA.out hadj
    have HF := Lib.hid (cut_f HVL.out hall)
    rw [hcut] at HCU
    have hnad := fun x => hadj (HAD.out.2 x)
    have h1 : ¬ (i : Int) = k := fun x => hnad (.inl x)
    have h2 : ¬ ((i : Int) + 1) % n = k := fun x => hnad (.inr (.inl x))
    have h3 : ¬ ((k : Int) + 1) % n = i := fun x => hnad (.inr (.inr x))
    have d1 : ((i : Int) == k) = false := by simp [h1]
    have d2 : decide ((i : Int) = k) = false := decide_eq_false h1
    have d3 : (((i : Int) + 1) % n == k) = false := by simp [h2]
    have d4 : decide (((i : Int) + 1) % n = k) = false := decide_eq_false h2
    have d5 : (((k : Int) + 1) % n == i) = false := by simp [h3]
    have d6 : decide (((k : Int) + 1) % n = i) = false := decide_eq_false h3
    clear HCP HCA HAD hadj hnad hcut hall
    go_wp2_with fail
    refine (HCU.out _ (Below.refl _ _)).mono ?_
    rintro e w3 (⟨_, _, ra, rb, h0, rfl, hra, hrb, hB3⟩ | ⟨h0, _⟩)
    rotate_left
    · cases h0
    cases h0
    obtain ⟨ga, oa, ca, na, rfl, hPA⟩ := poly_of hra HF.out.va
    obtain ⟨gb, ob, cb, nb, rfl, hPB⟩ := poly_of hrb HF.out.vb
    have HA := Lib.hid hPA
    have HB := Lib.hid hPB
    have HL := Lib.hid (HL.out.via hB3)
    have HBW := Lib.hid (belowStep HBW.out hB3)
    clear hra hrb hB3 hPA hPB HCU
    have KS := Lib.hid (fun w1 (hB : Below w3.heap.size w3 w1) => seam_w a b HA.out.len HB.out.len _ _ w1 (HA.out.at_.via hB) (HB.out.at_.via hB))
    have KVA := Lib.hid (fun w1 (hB : Below w3.heap.size w3 w1) => valid_w a HA.out.len _ w1 (HA.out.at_.via hB))
    have KVB := Lib.hid (fun w1 (hB : Below w3.heap.size w3 w1) => valid_w b HB.out.len _ w1 (HB.out.at_.via hB))
    have KO := Lib.hid (fun w1 (hB : Below w3.heap.size w3 w1) => overlap_w a b HA.out.len HB.out.len _ _ w1 (HA.out.at_.via hB) (HB.out.at_.via hB))
    have KMA := Lib.hid (fun w1 (hB : Below w3.heap.size w3 w1) => moments_w a HA.out.len _ w1 (HA.out.at_.via hB))
    have KRA := Lib.hid (fun w1 (hB : Below w3.heap.size w3 w1) => area_w a HA.out.len _ w1 (HA.out.at_.via hB))
    have KIA := Lib.hid (fun w1 (hB : Below w3.heap.size w3 w1) => inside_w a HA.out.len (p1, p2) (on_i64 HOP.out) _ w1 (HA.out.at_.via hB))
    have KMB := Lib.hid (fun w1 (hB : Below w3.heap.size w3 w1) => moments_w b HB.out.len _ w1 (HB.out.at_.via hB))
    have KRB := Lib.hid (fun w1 (hB : Below w3.heap.size w3 w1) => area_w b HB.out.len _ w1 (HB.out.at_.via hB))
    have KIB := Lib.hid (fun w1 (hB : Below w3.heap.size w3 w1) => inside_w b HB.out.len (p1, p2) (on_i64 HOP.out) _ w1 (HB.out.at_.via hB))
    have KML := Lib.hid (fun w1 (hB : Below w3.heap.size w3 w1) => moments_w l HL.out.len _ w1 (HL.out.at_.via hB))
    have KRL := Lib.hid (fun w1 (hB : Below w3.heap.size w3 w1) => area_w l HL.out.len _ w1 (HL.out.at_.via hB))
    have KIL := Lib.hid (fun w1 (hB : Below w3.heap.size w3 w1) => inside_w l HL.out.len (p1, p2) (on_i64 HOP.out) _ w1 (HL.out.at_.via hB))
    rw [HA.out.vb] at KVA
    rw [HB.out.vb] at KVB
    rw [HF.out.over] at KO
    rw [HF.out.seam] at KS
    have HCI := Lib.hid (fun z (hB : Below w3.heap.size w3 z) => (HL.out.via hB).cells hin)
    have HCK := Lib.hid (fun z (hB : Below w3.heap.size w3 z) => (HL.out.via hB).cells hkn)
    have e1 := HF.out.area
    have e2 := HF.out.mx
    have e3 := HF.out.my
    have HI1 := Lib.hid (HF.out.ap1 (p1, p2) HOP.out)
    have HI2 := Lib.hid (HF.out.ap2 (p1, p2) HOP.out)
    have HI3 := Lib.hid (HF.out.inner (p1, p2) HOP.out)
    have CA := Lib.hid (insP_cases a (p1, p2))
    have CB := Lib.hid (insP_cases b (p1, p2))
    have CL := Lib.hid (insP_cases l (p1, p2))
    have a1 := area_bd HF.out.va
    have a2 := area_bd HF.out.vb
    have a3 := mx_bd HF.out.va
    have a4 := mx_bd HF.out.vb
    have a5 := my_bd HF.out.va
    have a6 := my_bd HF.out.vb
    have hlen := HF.out.len
    rw [← HA.out.hn, ← HB.out.hn, ← HL.out.hn] at hlen
    have hlen' : (na : Int) + nb = n + 2 := by omega
    have hba := HA.out.bd
    have hbb := HB.out.bd
    obtain ⟨b1, b2⟩ := hba
    obtain ⟨b3, b4⟩ := hbb
    have b2' : (na : Int) ≤ 8 := by omega
    have b4' : (nb : Int) ≤ 8 := by omega
    unfold pv at KIA KIB KIL
    unfold seamV sv at KS
    dsimp only at KIA KIB KIL KS
    obtain ⟨q, hq⟩ : ∃ q, q = vx l i := ⟨_, rfl⟩
    obtain ⟨t, ht⟩ : ∃ t, t = vx l k := ⟨_, rfl⟩
    rw [← hq, ← ht] at KS HI3
    rw [← hq] at HCI
    rw [← ht] at HCK
    obtain ⟨q1, q2⟩ := q
    obtain ⟨t1, t2⟩ := t
    dsimp only at KS HCI HCK
    clear hq ht HF hlen
    generalize areaP a = ra at *
    generalize areaP b = rb at *
    generalize areaP l = rl at *
    generalize mxP a = xa at *
    generalize mxP b = xb at *
    generalize mxP l = xl at *
    generalize myP a = ya at *
    generalize myP b = yb at *
    generalize myP l = yl at *
    generalize insP a (p1, p2) = u at *
    generalize insP b (p1, p2) = v at *
    generalize insP l (p1, p2) = L at *
    obtain ⟨a1a, a1b⟩ := a1
    obtain ⟨a2a, a2b⟩ := a2
    obtain ⟨a3a, a3b⟩ := a3
    obtain ⟨a4a, a4b⟩ := a4
    obtain ⟨a5a, a5b⟩ := a5
    obtain ⟨a6a, a6b⟩ := a6
    have g1 : IntKind.i64.wrap (ra + rb) = rl := by rw [e1]; exact IntWalk.i64_in _ (by omega)
    have g2 : IntKind.i64.wrap (xa + xb) = xl := by rw [e2]; exact IntWalk.i64_in _ (by omega)
    have g3 : IntKind.i64.wrap (ya + yb) = yl := by rw [e3]; exact IntWalk.i64_in _ (by omega)
    have g4 : IntKind.i64.wrap ((na : Int) + nb) = (n : Int) + 2 := by rw [hlen']; exact IntWalk.i64_in _ (by omega)
    have g5 : IntKind.i64.wrap ((n : Int) + 2) = (n : Int) + 2 := IntWalk.i64_in _ (by omega)
    clear e1 e2 e3 a1a a1b a2a a2b a3a a3b a4a a4b a5a a5b a6a a6b
    go_wp2_with fail
    refine (KS.out _ (Below.refl _ _)).mono ?_
    rintro e z4 ⟨rfl, hB⟩
    have HC4 := Lib.hid hB
    clear hB
    have HX1 := Lib.hid (heap_alloc_new z4 (.cells #[.int .i64 t1, .int .i64 t2, .int .i64 q1, .int .i64 q2] 48))
    have HC5 := Lib.hid (belowStep HC4.out (alloc_below z4 (.cells #[.int .i64 t1, .int .i64 t2, .int .i64 q1, .int .i64 q2] 48)))
    obtain ⟨W, hW⟩ : ∃ W, W = z4.alloc (.cells #[.int .i64 t1, .int .i64 t2, .int .i64 q1, .int .i64 q2] 48) := ⟨_, rfl⟩
    obtain ⟨bx, hbx⟩ : ∃ bx, bx = z4.heap.size := ⟨_, rfl⟩
    go_upto_region 11 with fail
    rw [← hW, ← hbx] at HX1 ⊢
    rw [← hW] at HC5
    clear hW hbx
    obtain ⟨c0, c1⟩ := HCI.out W HC5.out
    obtain ⟨d0, d1⟩ := HCK.out W HC5.out
    have x0 := cell_heap (i := 0) HX1.out rfl
    have x1 := cell_heap (i := 1) HX1.out rfl
    have x2 := cell_heap (i := 2) HX1.out rfl
    have x3 := cell_heap (i := 3) HX1.out rfl
    clear HX1
    go_cut [132] (fun sx wx => sx = .bool false ∧ Below w3.heap.size w3 wx)
    case first => as_aux_lemma =>
      have hi8 : (i : Int) < n := by omega
      have hk8 : (k : Int) < n := by omega
      refine (wpIn_wide (n := 5)).1 ?_
      refine wpIn_region_T (fun w' => Below W.drew.heap.size W.drew w') 43 (by kernel_rfl) ?_
      have hd : Below W.heap.size W W.drew := (Below.refl _ _).drew
      have HC6 := Lib.hid (belowStep HC5.out hd)
      generalize W.drew = wd at *
      have c0 := keptBelow hd c0
      have c1 := keptBelow hd c1
      have d0 := keptBelow hd d0
      have d1 := keptBelow hd d1
      have x0 := keptBelow hd x0
      have x1 := keptBelow hd x1
      have x2 := keptBelow hd x2
      have x3 := keptBelow hd x3
      refine wpT_tk 0 88 (v := ?_) (Below.refl _ _) rfl rfl (by rfl) (hy := fun w hw => ?_) (h := ?_)
      rotate_left
      · go_simp; with_reducible rfl
      try simp only [Act.put, List.setIfInBounds_toArray, List.set_cons_zero, List.set_cons_succ]
      refine wpT_tk 1 89 (v := ?_) (Below.refl _ _) rfl rfl (by rfl) (hy := fun w hw => ?_) (h := ?_)
      rotate_left
      · go_simp; with_reducible rfl
      try simp only [Act.put, List.setIfInBounds_toArray, List.set_cons_zero, List.set_cons_succ]
      refine wpT_tk 2 90 (v := ?_) (Below.refl _ _) rfl rfl (by rfl) (hy := fun w hw => ?_) (h := ?_)
      rotate_left
      · go_simp; with_reducible rfl
      try simp only [Act.put, List.setIfInBounds_toArray, List.set_cons_zero, List.set_cons_succ]
      refine wpT_tk 3 91 (v := ?_) (Below.refl _ _) rfl rfl (by rfl) (hy := fun w hw => ?_) (h := ?_)
      rotate_left
      · go_simp; with_reducible rfl
      try simp only [Act.put, List.setIfInBounds_toArray, List.set_cons_zero, List.set_cons_succ]
      refine wpT_oneW 4 rfl (by rfl) (by kernel_rfl) ?_
      go_simp
      refine ⟨trivial, ?_⟩
      refine (callsIn_wide.2 (KVA.out wd HC6.out)).mono ?_
      rintro e u7 ⟨rfl, hB⟩
      have HC7 := Lib.hid (belowStep HC6.out hB)
      have HS7 := Lib.hid (hB)
      clear hB
      refine ⟨HS7.out, ?_⟩
      refine wpT_tk 5 93 (v := ?_) HS7.out rfl rfl (by rfl) (hy := fun w hw => ?_) (h := ?_)
      rotate_left
      · go_simp; with_reducible rfl
      try simp only [Act.put, List.setIfInBounds_toArray, List.set_cons_zero, List.set_cons_succ]
      refine wpT_tk 6 94 (v := ?_) HS7.out rfl rfl (by rfl) (hy := fun w hw => ?_) (h := ?_)
      rotate_left
      · go_simp; with_reducible rfl
      try simp only [Act.put, List.setIfInBounds_toArray, List.set_cons_zero, List.set_cons_succ]
      refine wpT_tk 7 95 (v := ?_) HS7.out rfl rfl (by rfl) (hy := fun w hw => ?_) (h := ?_)
      rotate_left
      · go_simp; with_reducible rfl
      try simp only [Act.put, List.setIfInBounds_toArray, List.set_cons_zero, List.set_cons_succ]
      refine wpT_tk 8 96 (v := ?_) HS7.out rfl rfl (by rfl) (hy := fun w hw => ?_) (h := ?_)
      rotate_left
      · go_simp; with_reducible rfl
      try simp only [Act.put, List.setIfInBounds_toArray, List.set_cons_zero, List.set_cons_succ]
      refine wpT_oneW 9 rfl (by rfl) (by kernel_rfl) ?_
      go_simp
      refine ⟨trivial, ?_⟩
      refine (callsIn_wide.2 (KVB.out u7 HC7.out)).mono ?_
      rintro e u8 ⟨rfl, hB⟩
      have HC8 := Lib.hid (belowStep HC7.out hB)
      have HS8 := Lib.hid (belowStep HS7.out hB)
      clear hB
      refine ⟨HS8.out, ?_⟩
      refine wpT_tk 10 98 (v := ?_) HS8.out rfl rfl (by rfl) (hy := fun w hw => ?_) (h := ?_)
      rotate_left
      · go_simp; with_reducible rfl
      try simp only [Act.put, List.setIfInBounds_toArray, List.set_cons_zero, List.set_cons_succ]
      refine wpT_tk 11 99 (v := ?_) HS8.out rfl rfl (by rfl) (hy := fun w hw => ?_) (h := ?_)
      rotate_left
      · go_simp; with_reducible rfl
      try simp only [Act.put, List.setIfInBounds_toArray, List.set_cons_zero, List.set_cons_succ]
      refine wpT_tk 12 100 (v := ?_) HS8.out rfl rfl (by rfl) (hy := fun w hw => ?_) (h := ?_)
      rotate_left
      · go_simp; with_reducible rfl
      try simp only [Act.put, List.setIfInBounds_toArray, List.set_cons_zero, List.set_cons_succ]
      refine wpT_tk 13 101 (v := ?_) HS8.out rfl rfl (by rfl) (hy := fun w hw => ?_) (h := ?_)
      rotate_left
      · go_simp; with_reducible rfl
      try simp only [Act.put, List.setIfInBounds_toArray, List.set_cons_zero, List.set_cons_succ]
      refine wpT_tk 14 102 (v := ?_) HS8.out rfl rfl (by rfl) (hy := fun w hw => ?_) (h := ?_)
      rotate_left
      · go_simp; with_reducible rfl
      try simp only [Act.put, List.setIfInBounds_toArray, List.set_cons_zero, List.set_cons_succ]
      refine wpT_tk 15 103 (v := ?_) HS8.out rfl rfl (by rfl) (hy := fun w hw => ?_) (h := ?_)
      rotate_left
      · go_simp; with_reducible rfl
      try simp only [Act.put, List.setIfInBounds_toArray, List.set_cons_zero, List.set_cons_succ]
      refine wpT_tk 16 104 (v := ?_) HS8.out rfl rfl (by rfl) (hy := fun w hw => ?_) (h := ?_)
      rotate_left
      · go_simp; with_reducible rfl
      try simp only [Act.put, List.setIfInBounds_toArray, List.set_cons_zero, List.set_cons_succ]
      refine wpT_tk 17 105 (v := ?_) HS8.out rfl rfl (by rfl) (hy := fun w hw => ?_) (h := ?_)
      rotate_left
      · go_simp; with_reducible rfl
      try simp only [Act.put, List.setIfInBounds_toArray, List.set_cons_zero, List.set_cons_succ]
      refine wpT_tk 18 106 (v := ?_) HS8.out rfl rfl (by rfl) (hy := fun w hw => ?_) (h := ?_)
      rotate_left
      · go_simp; with_reducible rfl
      try simp only [Act.put, List.setIfInBounds_toArray, List.set_cons_zero, List.set_cons_succ]
      refine wpT_tk 19 107 (v := ?_) HS8.out rfl rfl (by rfl) (hy := fun w hw => ?_) (h := ?_)
      rotate_left
      · go_simp; with_reducible rfl
      try simp only [Act.put, List.setIfInBounds_toArray, List.set_cons_zero, List.set_cons_succ]
      refine wpT_tk 20 108 (v := ?_) HS8.out rfl rfl (by rfl) (hy := fun w hw => ?_) (h := ?_)
      rotate_left
      · go_simp; with_reducible rfl
      try simp only [Act.put, List.setIfInBounds_toArray, List.set_cons_zero, List.set_cons_succ]
      refine wpT_tk 21 109 (v := ?_) HS8.out rfl rfl (by rfl) (hy := fun w hw => ?_) (h := ?_)
      rotate_left
      · go_simp; with_reducible rfl
      try simp only [Act.put, List.setIfInBounds_toArray, List.set_cons_zero, List.set_cons_succ]
      refine wpT_tk 22 110 (v := ?_) HS8.out rfl rfl (by rfl) (hy := fun w hw => ?_) (h := ?_)
      rotate_left
      · go_simp; with_reducible rfl
      try simp only [Act.put, List.setIfInBounds_toArray, List.set_cons_zero, List.set_cons_succ]
      refine wpT_tk 23 111 (v := ?_) HS8.out rfl rfl (by rfl) (hy := fun w hw => ?_) (h := ?_)
      rotate_left
      · go_simp; with_reducible rfl
      try simp only [Act.put, List.setIfInBounds_toArray, List.set_cons_zero, List.set_cons_succ]
      refine wpT_tk 24 112 (v := ?_) HS8.out rfl rfl (by rfl) (hy := fun w hw => ?_) (h := ?_)
      rotate_left
      · go_simp; with_reducible rfl
      try simp only [Act.put, List.setIfInBounds_toArray, List.set_cons_zero, List.set_cons_succ]
      refine wpT_tk 25 113 (v := ?_) HS8.out rfl rfl (by rfl) (hy := fun w hw => ?_) (h := ?_)
      rotate_left
      · go_simp; with_reducible rfl
      try simp only [Act.put, List.setIfInBounds_toArray, List.set_cons_zero, List.set_cons_succ]
      refine wpT_oneW 26 rfl (by rfl) (by kernel_rfl) ?_
      go_simp
      refine ⟨trivial, ?_⟩
      refine (callsIn_wide.2 (KO.out u8 HC8.out)).mono ?_
      rintro e u9 ⟨rfl, hB⟩
      have HC9 := Lib.hid (belowStep HC8.out hB)
      have HS9 := Lib.hid (belowStep HS8.out hB)
      clear hB
      refine ⟨HS9.out, ?_⟩
      refine wpT_tk 27 115 (v := ?_) HS9.out rfl rfl (by rfl) (hy := fun w hw => ?_) (h := ?_)
      rotate_left
      · go_simp; with_reducible rfl
      try simp only [Act.put, List.setIfInBounds_toArray, List.set_cons_zero, List.set_cons_succ]
      refine wpT_tk 28 116 (v := ?_) HS9.out rfl rfl (by rfl) (hy := fun w hw => ?_) (h := ?_)
      rotate_left
      · go_simp; with_reducible rfl
      try simp only [Act.put, List.setIfInBounds_toArray, List.set_cons_zero, List.set_cons_succ]
      refine wpT_tk 29 117 (v := ?_) HS9.out rfl rfl (by rfl) (hy := fun w hw => ?_) (h := ?_)
      rotate_left
      · go_simp; with_reducible rfl
      try simp only [Act.put, List.setIfInBounds_toArray, List.set_cons_zero, List.set_cons_succ]
      refine wpT_tk 30 118 (v := ?_) HS9.out rfl rfl (by rfl) (hy := fun w hw => ?_) (h := ?_)
      rotate_left
      · go_simp; with_reducible rfl
      try simp only [Act.put, List.setIfInBounds_toArray, List.set_cons_zero, List.set_cons_succ]
      refine wpT_tk 31 119 (v := ?_) HS9.out rfl rfl (by rfl) (hy := fun w hw => ?_) (h := ?_)
      rotate_left
      · go_simp; with_reducible rfl
      try simp only [Act.put, List.setIfInBounds_toArray, List.set_cons_zero, List.set_cons_succ]
      refine wpT_tk 32 120 (v := ?_) HS9.out rfl rfl (by rfl) (hy := fun w hw => ?_) (h := ?_)
      rotate_left
      · go_simp; with_reducible rfl
      try simp only [Act.put, List.setIfInBounds_toArray, List.set_cons_zero, List.set_cons_succ]
      refine wpT_tk 33 121 (v := ?_) HS9.out rfl rfl (by rfl) (hy := fun w hw => ?_) (h := ?_)
      rotate_left
      · have x0 := keptBelow hw x0; have x1 := keptBelow hw x1; have x2 := keptBelow hw x2; have x3 := keptBelow hw x3; go_simp; with_reducible rfl
      try simp only [Act.put, List.setIfInBounds_toArray, List.set_cons_zero, List.set_cons_succ]
      refine wpT_tk 34 122 (v := ?_) HS9.out rfl rfl (by rfl) (hy := fun w hw => ?_) (h := ?_)
      rotate_left
      · go_simp; with_reducible rfl
      try simp only [Act.put, List.setIfInBounds_toArray, List.set_cons_zero, List.set_cons_succ]
      refine wpT_tk 35 123 (v := ?_) HS9.out rfl rfl (by rfl) (hy := fun w hw => ?_) (h := ?_)
      rotate_left
      · go_simp; with_reducible rfl
      try simp only [Act.put, List.setIfInBounds_toArray, List.set_cons_zero, List.set_cons_succ]
      refine wpT_tk 36 124 (v := ?_) HS9.out rfl rfl (by rfl) (hy := fun w hw => ?_) (h := ?_)
      rotate_left
      · go_simp; with_reducible rfl
      try simp only [Act.put, List.setIfInBounds_toArray, List.set_cons_zero, List.set_cons_succ]
      refine wpT_tk 37 125 (v := ?_) HS9.out rfl rfl (by rfl) (hy := fun w hw => ?_) (h := ?_)
      rotate_left
      · have d0 := keptBelow hw d0; have d1 := keptBelow hw d1; go_simp; with_reducible rfl
      try simp only [Act.put, List.setIfInBounds_toArray, List.set_cons_zero, List.set_cons_succ]
      refine wpT_tk 38 126 (v := ?_) HS9.out rfl rfl (by rfl) (hy := fun w hw => ?_) (h := ?_)
      rotate_left
      · go_simp; with_reducible rfl
      try simp only [Act.put, List.setIfInBounds_toArray, List.set_cons_zero, List.set_cons_succ]
      refine wpT_tk 39 127 (v := ?_) HS9.out rfl rfl (by rfl) (hy := fun w hw => ?_) (h := ?_)
      rotate_left
      · go_simp; with_reducible rfl
      try simp only [Act.put, List.setIfInBounds_toArray, List.set_cons_zero, List.set_cons_succ]
      refine wpT_tk 40 128 (v := ?_) HS9.out rfl rfl (by rfl) (hy := fun w hw => ?_) (h := ?_)
      rotate_left
      · go_simp; with_reducible rfl
      try simp only [Act.put, List.setIfInBounds_toArray, List.set_cons_zero, List.set_cons_succ]
      refine wpT_tk 41 129 (v := ?_) HS9.out rfl rfl (by rfl) (hy := fun w hw => ?_) (h := ?_)
      rotate_left
      · have c0 := keptBelow hw c0; have c1 := keptBelow hw c1; go_simp; with_reducible rfl
      try simp only [Act.put, List.setIfInBounds_toArray, List.set_cons_zero, List.set_cons_succ]
      refine wpT_tk 42 130 (v := ?_) HS9.out rfl rfl (by rfl) (hy := fun w hw => ?_) (h := ?_)
      rotate_left
      · go_simp; with_reducible rfl
      try simp only [Act.put, List.setIfInBounds_toArray, List.set_cons_zero, List.set_cons_succ]
      refine wpT_oneW 43 rfl (by rfl) (by kernel_rfl) ?_
      go_simp
      refine wpT_oneW 44 rfl (by rfl) (by kernel_rfl) ?_
      go_simp
      refine wpT_done (by kernel_rfl) ?_ _
      go_wp2_with fail
      go_meet
      case rel => exact ⟨rfl, HC9.out⟩
    case rest => as_aux_lemma =>
      clear c0 c1 d0 d1 x0 x1 x2 x3
      obtain ⟨rfl, hBc⟩ := hcut
      have HC9 := Lib.hid hBc
      clear hBc
      go_wp2_with fail
      refine (KMA.out _ HC9.out).mono ?_
      rintro e z10 ⟨rfl, hB⟩
      have HC10 := Lib.hid (belowStep HC9.out hB)
      clear hB
      go_wp2_with fail
      refine (KMB.out _ HC10.out).mono ?_
      rintro e z11 ⟨rfl, hB⟩
      have HC11 := Lib.hid (belowStep HC10.out hB)
      clear hB
      go_wp2_with fail
      refine (KML.out _ HC11.out).mono ?_
      rintro e z12 ⟨rfl, hB⟩
      have HC12 := Lib.hid (belowStep HC11.out hB)
      clear hB
      go_wp2_with fail
      refine (KRA.out _ HC12.out).mono ?_
      rintro e z13 ⟨rfl, hB⟩
      have HC13 := Lib.hid (belowStep HC12.out hB)
      clear hB
      go_wp2_with fail
      refine (KRB.out _ HC13.out).mono ?_
      rintro e z14 ⟨rfl, hB⟩
      have HC14 := Lib.hid (belowStep HC13.out hB)
      clear hB
      go_wp2_with fail
      refine (KRL.out _ HC14.out).mono ?_
      rintro e z15 ⟨rfl, hB⟩
      have HC15 := Lib.hid (belowStep HC14.out hB)
      clear hB
      go_wp2_with fail
      refine (HK1.out _).mono ?_
      rintro e y ⟨rfl, rfl⟩
      go_wp2_with fail
      refine (HK2.out _).mono ?_
      rintro e y ⟨rfl, rfl⟩
      go_wp2_with fail
      refine (sn_at _ _ _).mono ?_
      rintro e z16 ⟨rfl, hB⟩
      have HC16 := Lib.hid (belowStep HC15.out hB)
      clear hB
      have HPX := Lib.hid (PBox.new z16 p1 p2)
      have HC17 := Lib.hid (belowStep HC16.out (alloc_below z16 (.cells #[.int .i64 p1, .int .i64 p2] 26)))
      obtain ⟨W2, hW⟩ : ∃ W2, W2 = z16.alloc (.cells #[.int .i64 p1, .int .i64 p2] 26) := ⟨_, rfl⟩
      obtain ⟨by_, hbx⟩ : ∃ bx, bx = z16.heap.size := ⟨_, rfl⟩
      go_upto_region 19 with fail
      rw [← hW, ← hbx] at HPX ⊢
      rw [← hW] at HC17
      clear hW hbx
      have e0 := HPX.out.c0
      have e1 := HPX.out.c1
      dsimp only at e0 e1
      go_wp2_with fail
      refine (KIA.out _ HC17.out).mono ?_
      rintro e z18 ⟨rfl, hB⟩
      have HC18 := Lib.hid (belowStep HC17.out hB)
      have HPX18 := Lib.hid (HPX.out.via hB)
      clear e0 e1 hB
      have e0 := HPX18.out.c0
      have e1 := HPX18.out.c1
      dsimp only at e0 e1
      go_wp2_with fail
      refine (KIB.out _ HC18.out).mono ?_
      rintro e z19 ⟨rfl, hB⟩
      have HC19 := Lib.hid (belowStep HC18.out hB)
      have HPX19 := Lib.hid (HPX18.out.via hB)
      clear e0 e1 hB
      have e0 := HPX19.out.c0
      have e1 := HPX19.out.c1
      dsimp only at e0 e1
      go_upto_region 21 with fail
      clear e0 e1
      have uv : (u = 1 ∧ v = -1) ∨ (u = -1 ∧ v = 1) ∨ (u = 0 ∧ v = -1) ∨ (u = -1 ∧ v = 0) ∨ (u = -1 ∧ v = -1) ∨ (u = 0 ∧ v = 0) := by
        have h1 := HI1.out
        have h2 := HI2.out
        rcases CA.out with h | h | h <;> rcases CB.out with k | k | k <;> subst h <;> subst k <;> simp at h1 h2 ⊢
      rcases uv with ⟨rfl, rfl⟩ | ⟨rfl, rfl⟩ | ⟨rfl, rfl⟩ | ⟨rfl, rfl⟩ | ⟨rfl, rfl⟩ | ⟨rfl, rfl⟩
      · as_aux_lemma =>
        have hE := HPX19.out
        have e0 := hE.c0
        have e1 := hE.c1
        dsimp only at e0 e1
        go_upto_region 23 with fail
        go_cut [27] (fun sx wx => sx = .bool false ∧ Below z19.heap.size z19 wx)
        case first =>
          go_wp2_with fail
          go_quiet (fail)
          go_wp2_with fail
          go_meet
          case rel => exact ⟨rfl, below_drewN (Below.refl _ _) _⟩
        case rest =>
          clear e0 e1
          obtain ⟨rfl, hBc⟩ := hcut
          have HC20 := Lib.hid (belowStep HC19.out hBc)
          have hE := HPX19.out.via hBc
          have e0 := hE.c0
          have e1 := hE.c1
          dsimp only at e0 e1
          go_wp2_with fail
          refine (KIL.out _ HC20.out).mono ?_
          rintro e zf ⟨rfl, hB⟩
          have HCF := Lib.hid (belowStep HBW.out (belowStep HC20.out hB))
          clear hB
          obtain rfl : L = 1 := by exact HI3.out.2 (.inl (by trivial))
          go_wp2_with fail
          go_ret
          exact ⟨rfl, HCF.out⟩
      · as_aux_lemma =>
        have hE := HPX19.out
        have e0 := hE.c0
        have e1 := hE.c1
        dsimp only at e0 e1
        go_upto_region 23 with fail
        go_cut [27] (fun sx wx => sx = .bool false ∧ Below z19.heap.size z19 wx)
        case first =>
          go_wp2_with fail
          go_quiet (fail)
          go_wp2_with fail
          go_meet
          case rel => exact ⟨rfl, below_drewN (Below.refl _ _) _⟩
        case rest =>
          clear e0 e1
          obtain ⟨rfl, hBc⟩ := hcut
          have HC20 := Lib.hid (belowStep HC19.out hBc)
          have hE := HPX19.out.via hBc
          have e0 := hE.c0
          have e1 := hE.c1
          dsimp only at e0 e1
          go_wp2_with fail
          refine (KIL.out _ HC20.out).mono ?_
          rintro e zf ⟨rfl, hB⟩
          have HCF := Lib.hid (belowStep HBW.out (belowStep HC20.out hB))
          clear hB
          obtain rfl : L = 1 := by exact HI3.out.2 (.inr (.inl (by trivial)))
          go_wp2_with fail
          go_ret
          exact ⟨rfl, HCF.out⟩
      · as_aux_lemma =>
        have hE := HPX19.out
        have e0 := hE.c0
        have e1 := hE.c1
        dsimp only at e0 e1
        go_upto_region 23 with fail
        go_cut [27] (fun sx wx => sx = .bool false ∧ Below z19.heap.size z19 wx)
        case first =>
          go_wp2_with fail
          go_quiet (fail)
          go_wp2_with fail
          go_meet
          case rel => exact ⟨rfl, below_drewN (Below.refl _ _) _⟩
        case rest =>
          clear e0 e1
          obtain ⟨rfl, hBc⟩ := hcut
          have HC20 := Lib.hid (belowStep HC19.out hBc)
          have hE := HPX19.out.via hBc
          have e0 := hE.c0
          have e1 := hE.c1
          dsimp only at e0 e1
          go_wp2_with fail
          refine (KIL.out _ HC20.out).mono ?_
          rintro e zf ⟨rfl, hB⟩
          have HCF := Lib.hid (belowStep HBW.out (belowStep HC20.out hB))
          clear hB
          have hL : ¬ L = 1 := by intro h; rcases HI3.out.1 h with h | h | ⟨h, h', _⟩ <;> omega
          have l1 : (L == 1) = false := by simp [hL]
          have l2 : decide (L = 1) = false := decide_eq_false hL
          go_wp2_with fail
          go_ret
          exact ⟨rfl, HCF.out⟩
      · as_aux_lemma =>
        have hE := HPX19.out
        have e0 := hE.c0
        have e1 := hE.c1
        dsimp only at e0 e1
        go_upto_region 23 with fail
        go_cut [27] (fun sx wx => sx = .bool false ∧ Below z19.heap.size z19 wx)
        case first =>
          go_wp2_with fail
          go_quiet (fail)
          go_wp2_with fail
          go_meet
          case rel => exact ⟨rfl, below_drewN (Below.refl _ _) _⟩
        case rest =>
          clear e0 e1
          obtain ⟨rfl, hBc⟩ := hcut
          have HC20 := Lib.hid (belowStep HC19.out hBc)
          have hE := HPX19.out.via hBc
          have e0 := hE.c0
          have e1 := hE.c1
          dsimp only at e0 e1
          go_wp2_with fail
          refine (KIL.out _ HC20.out).mono ?_
          rintro e zf ⟨rfl, hB⟩
          have HCF := Lib.hid (belowStep HBW.out (belowStep HC20.out hB))
          clear hB
          have hL : ¬ L = 1 := by intro h; rcases HI3.out.1 h with h | h | ⟨h, h', _⟩ <;> omega
          have l1 : (L == 1) = false := by simp [hL]
          have l2 : decide (L = 1) = false := decide_eq_false hL
          go_wp2_with fail
          go_ret
          exact ⟨rfl, HCF.out⟩
      · as_aux_lemma =>
        have hE := HPX19.out
        have e0 := hE.c0
        have e1 := hE.c1
        dsimp only at e0 e1
        go_upto_region 23 with fail
        go_cut [27] (fun sx wx => sx = .bool false ∧ Below z19.heap.size z19 wx)
        case first =>
          go_wp2_with fail
          go_quiet (fail)
          go_wp2_with fail
          go_meet
          case rel => exact ⟨rfl, below_drewN (Below.refl _ _) _⟩
        case rest =>
          clear e0 e1
          obtain ⟨rfl, hBc⟩ := hcut
          have HC20 := Lib.hid (belowStep HC19.out hBc)
          have hE := HPX19.out.via hBc
          have e0 := hE.c0
          have e1 := hE.c1
          dsimp only at e0 e1
          go_wp2_with fail
          refine (KIL.out _ HC20.out).mono ?_
          rintro e zf ⟨rfl, hB⟩
          have HCF := Lib.hid (belowStep HBW.out (belowStep HC20.out hB))
          clear hB
          have hL : ¬ L = 1 := by intro h; rcases HI3.out.1 h with h | h | ⟨h, h', _⟩ <;> omega
          have l1 : (L == 1) = false := by simp [hL]
          have l2 : decide (L = 1) = false := decide_eq_false hL
          go_wp2_with fail
          go_ret
          exact ⟨rfl, HCF.out⟩
      · as_aux_lemma =>
        obtain ⟨dg, hdg⟩ : ∃ dg : Bool, dg = decide ((p1, p2) ≠ (q1, q2) ∧ (p1, p2) ≠ (t1, t2)) := ⟨_, rfl⟩
        have HDG := Lib.hid hdg
        clear hdg
        obtain ⟨c0, c1⟩ := HCI.out z19 HC19.out
        obtain ⟨d0, d1⟩ := HCK.out z19 HC19.out
        have hi8 : (i : Int) < n := by omega
        have hk8 : (k : Int) < n := by omega
        have hE := HPX19.out
        have e0 := hE.c0
        have e1 := hE.c1
        dsimp only at e0 e1
        go_upto_region 23 with fail
        go_cut [27] (fun sx wx => sx = .bool dg ∧ Below z19.heap.size z19 wx)
        case first =>
          have HZ : Hid (decide ((p1, p2) ≠ (q1, q2) ∧ (p1, p2) ≠ (t1, t2)) = dg) := Lib.hid HDG.out.symm
          rcases pt_cases p1 p2 q1 q2 with ⟨h, h'⟩ | h | ⟨h, h'⟩
          · subst h; subst h'
            have HZ2 : Hid (dg = false) := Lib.hid (by rw [← HZ.out]; simp)
            go_wp2_with fail
            go_quiet (fail)
            go_wp2_with fail
            go_meet
            case rel => exact ⟨by rw [HZ2.out], below_drewN (Below.refl _ _) _⟩
          · have f1 : decide (p1 = q1) = false := decide_eq_false h
            have f2 : (p1 == q1) = false := by simp [h]
            rcases pt_cases p1 p2 t1 t2 with ⟨k, k'⟩ | k | ⟨k, k'⟩
            · subst k; subst k'
              have HZ2 : Hid (dg = false) := Lib.hid (by rw [← HZ.out]; simp)
              go_wp2_with fail
              go_quiet (fail)
              go_wp2_with fail
              go_meet
              case rel => exact ⟨by rw [HZ2.out], below_drewN (Below.refl _ _) _⟩
            · have HZ2 : Hid (dg = true) := Lib.hid (by rw [← HZ.out]; simp; omega)
              have f3 : decide (p1 = t1) = false := decide_eq_false k
              have f4 : (p1 == t1) = false := by simp [k]
              go_wp2_with fail
              go_quiet (fail)
              go_wp2_with fail
              go_meet
              case rel => exact ⟨by rw [HZ2.out], below_drewN (Below.refl _ _) _⟩
            · have HZ2 : Hid (dg = true) := Lib.hid (by rw [← HZ.out]; simp; omega)
              subst k
              have f3 : decide (p2 = t2) = false := decide_eq_false k'
              have f4 : (p2 == t2) = false := by simp [k']
              go_wp2_with fail
              go_quiet (fail)
              go_wp2_with fail
              go_meet
              case rel => exact ⟨by rw [HZ2.out], below_drewN (Below.refl _ _) _⟩
          · have f1 : decide (p2 = q2) = false := decide_eq_false h'
            have f2 : (p2 == q2) = false := by simp [h']
            rcases pt_cases p1 p2 t1 t2 with ⟨k, k'⟩ | k | ⟨k, k'⟩
            · subst k; subst k'
              have HZ2 : Hid (dg = false) := Lib.hid (by rw [← HZ.out]; simp)
              go_wp2_with fail
              go_quiet (fail)
              go_wp2_with fail
              go_meet
              case rel => exact ⟨by rw [HZ2.out], below_drewN (Below.refl _ _) _⟩
            · have HZ2 : Hid (dg = true) := Lib.hid (by rw [← HZ.out]; simp; omega)
              have f3 : decide (p1 = t1) = false := decide_eq_false k
              have f4 : (p1 == t1) = false := by simp [k]
              go_wp2_with fail
              go_quiet (fail)
              go_wp2_with fail
              go_meet
              case rel => exact ⟨by rw [HZ2.out], below_drewN (Below.refl _ _) _⟩
            · have HZ2 : Hid (dg = true) := Lib.hid (by rw [← HZ.out]; simp; omega)
              subst k
              have f3 : decide (p2 = t2) = false := decide_eq_false k'
              have f4 : (p2 == t2) = false := by simp [k']
              go_wp2_with fail
              go_quiet (fail)
              go_wp2_with fail
              go_meet
              case rel => exact ⟨by rw [HZ2.out], below_drewN (Below.refl _ _) _⟩
        case rest =>
          clear c0 c1 d0 d1 e0 e1
          obtain ⟨rfl, hBc⟩ := hcut
          have HC20 := Lib.hid (belowStep HC19.out hBc)
          have hE := HPX19.out.via hBc
          have e0 := hE.c0
          have e1 := hE.c1
          dsimp only at e0 e1
          rcases dg with _ | _
          · go_wp2_with fail
            refine (KIL.out _ HC20.out).mono ?_
            rintro e zf ⟨rfl, hB⟩
            have HCF := Lib.hid (belowStep HBW.out (belowStep HC20.out hB))
            clear hB
            have hL : ¬ L = 1 := by intro h; have h2 := HI3.out.1 h; have h3 := of_decide_eq_false HDG.out.symm; rcases h2 with h2 | h2 | ⟨_, _, h4, h5⟩ <;> first | omega | exact h3 ⟨h4, h5⟩
            have l1 : (L == 1) = false := by simp [hL]
            have l2 : decide (L = 1) = false := decide_eq_false hL
            go_wp2_with fail
            go_ret
            exact ⟨rfl, HCF.out⟩
          · go_wp2_with fail
            refine (KIL.out _ HC20.out).mono ?_
            rintro e zf ⟨rfl, hB⟩
            have HCF := Lib.hid (belowStep HBW.out (belowStep HC20.out hB))
            clear hB
            obtain rfl : L = 1 := by have h3 := of_decide_eq_true HDG.out.symm; exact HI3.out.2 (.inr (.inr ⟨by trivial, by trivial, h3.1, h3.2⟩))
            go_wp2_with fail
            go_ret
            exact ⟨rfl, HCF.out⟩
end Go.Proofs.Ytliligehofjegaa
