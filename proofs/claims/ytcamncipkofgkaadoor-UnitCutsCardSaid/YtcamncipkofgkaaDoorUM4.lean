/- Several texts of layers 7 and 8, one behind the other: PlnMade, PlnMap, PlnRefB, PlnSep, PlnValid, PlnTotal, PlnSteps. -/
import Derived.Test.YtcamncipkofgkaaDoorUM3
/- PlnMade: The contract of the reference's Made. -/
namespace Go.Proofs.YtcamncipkofgkaaDoor
open Go.RowKit Go.Shelf Pln

/-- append to a slice that is nil or the call's own, inside a fence. -/
theorem wpIn_append_own {F : Fence} {n : Nat} {P : Program} {o : Oper} {a : Act} {w : World} {K : Act → World → Prop} {Q : Exit → Act → World → Prop}
    (s x : Operand) (t : TypeId) (hop : o.op = Op.call { callee := Callee.builtin Builtin.append, args := #[s, x], argTypes := #[t, t] })
    (base : Nat) (e : TypeId) (i : TypeInfo) (z : Value) (size bytes : Nat) (h1 : P.underlying t = some (.slice e)) (h2 : P.info? e = some i) (h3 : i.zero = some z) (h4 : i.size = size) (h5 : i.bytes = bytes) (h6 : z.cells.size = size) (h7 : 0 < size)
    (v : Value) (k : Nat) (xs : List Value) (hs : a.eval s = v) (hown : w.ownsRow base e size v k xs) (ad : Addr) (m c : Nat) (news : List Value) (hx : a.eval x = .slice (some ad) m c) (hn : news.length = m * size)
    (hc : ∀ j u, news[j]? = some u → w.cell? (ad.add j) = some u) (h1c : ∀ u ∈ news, u.oneCell' = true) (b1 : k + m ≤ maxLen) (b2 : (k + m) * bytes ≤ 140737488355328) (b3 : base ≤ w.heap.size)
    (hK : ∀ v' w', w'.ownsRow base e size v' (k + m) (xs ++ news) → w.grownBy w' v.ownBlock → K (a.put o.dst v') w') : o.wpIn F n P a w K Q := by
  obtain ⟨v', w', hrun, r1, r2, _⟩ := run_append_own (P := P) w base t o.type e i z size bytes h1 h2 h3 h4 h5 h6 h7 v k xs hown ad m c news hn hc h1c b1 b2 b3
  refine ⟨fun f hf => ?_, ?_⟩
  · unfold Oper.about at hf
    rw [hop] at hf
    simp [resolve] at hf
    cases hf
  · rw [Oper.semAt_plain F _ _ (fun c => by rw [hop]; intro h; cases h)]
    simp [execOp, hop, resolve, invoke, builtin, hs, hx, hrun, Result.andThen, Oper.uponIn]
    exact hK v' w' r1 r2
theorem some_next {x : List Pt} {low high : Int} {k : Nat} (h : k < x.length) : (x.take (k + 1)).map (mkP low high) = (x.take k).map (mkP low high) ++ [mkP low high (vx x k)] := by
  rw [List.take_add_one, vx_eq h, List.map_append]; simp [List.getElem?_eq_getElem h]
/-- The triangle as it is built. -/
theorem tri_at (w : World) (low high : Int) : (w.alloc (.cells #[.int .i64 low, .int .i64 10, .int .i64 high, .int .i64 10, .int .i64 low, .int .i64 20] 38)).ownsRow w.heap.size 38 2 (.slice (some ⟨w.heap.size, 0, none⟩) 3 3) 3 (cellsP (triP low high)) :=
  ⟨rfl, .inr ⟨w.heap.size, 3, #[.int .i64 low, .int .i64 10, .int .i64 high, .int .i64 10, .int .i64 low, .int .i64 20], rfl, Nat.le_refl _, heap_alloc_new w _, Nat.le_refl _, by unfold maxLen; omega, rfl, rfl⟩⟩
theorem at_cells {w : World} {g o n c : Nat} {l : List Pt} (h : PtsAt w (.slice (some ⟨g, o, none⟩) n c) l) : n = l.length ∧ n ≤ c ∧ (c : Int) ≤ 9223372036854775807 ∧ ∀ j, j < l.length → w.cell? ⟨g, o + j * 2, none⟩ = some (.int .i64 (vx l j).1) ∧ w.cell? ⟨g, o + j * 2 + 1, none⟩ = some (.int .i64 (vx l j).2) := by
  obtain ⟨⟨a, c', he, h1, h2, hin⟩, _⟩ := h
  cases he
  refine ⟨rfl, h1, h2, fun j hj => ?_⟩
  obtain ⟨g', o', he, h3, h4⟩ := hin.get hj
  cases he
  exact ⟨h3, h4⟩
theorem some_all {x : List Pt} {low high : Int} {k : Nat} (h : k ≤ x.length) (h8 : k ≤ 8) (h2 : ¬ (k < x.length ∧ k < 8)) : (x.take k).map (mkP low high) = someP x low high := by
  unfold someP
  by_cases e : k = 8
  · rw [e]
  · rw [List.take_of_length_le (by omega), List.take_of_length_le (by omega)]
theorem empty_own (w : World) : (w.alloc (.cells #[] 38)).ownsRow w.heap.size 38 2 (.slice (some ⟨w.heap.size, 0, none⟩) 0 0) 0 [] :=
  ⟨rfl, .inr ⟨w.heap.size, 0, #[], rfl, Nat.le_refl _, heap_alloc_new w _, Nat.le_refl _, by unfold maxLen; omega, rfl, rfl⟩⟩
theorem tdiv_in {p : Int} (h : I64 p) : I64 (p.tdiv 41) := by
  obtain ⟨h1, h2⟩ := h
  rcases Int.le_total 0 p with h | h
  · rw [Int.tdiv_eq_ediv_of_nonneg h]; exact ⟨by omega, by omega⟩
  · obtain ⟨q, rfl⟩ : ∃ q, p = -q := ⟨-p, by omega⟩
    rw [Int.neg_tdiv, Int.tdiv_eq_ediv_of_nonneg (by omega)]; exact ⟨by omega, by omega⟩
set_option maxRecDepth 100000 in
set_option maxHeartbeats 1000000 in
theorem made_w (x : List Pt) (hx : (x.length : Int) ≤ 9223372036854775807) (low high : Int) (h0 : 0 ≤ low) (h1 : low < high) (h2 : high ≤ 40) (v : Value) (w : World) (hv : PtsAt w v x) :
    Calls Tryd.prog 72 #[v, .int .i64 low, .int .i64 high] w fun e w' => ∃ r, e = .returned r ∧ PtsAt w' r (madeP x low high) ∧ Below w.heap.size w w' := by
  have HV := Lib.hid hv
  have HOK := Lib.hid hv.ok
  obtain ⟨⟨a, c, rfl, _, _, _⟩, _⟩ := hv
  obtain ⟨n, hn⟩ : ∃ n, n = x.length := ⟨_, rfl⟩
  have HNN := Lib.hid hn
  have hnb : (n : Int) ≤ 9223372036854775807 := by omega
  rw [← hn] at HV ⊢
  clear hn hx
  obtain ⟨i0, hi, hz0, hz1, hz2⟩ := info_parts info_pt
  have HI := Lib.hid hi
  have HZ0 := Lib.hid hz0
  have HZ1 := Lib.hid hz1
  have HZ2 := Lib.hid hz2
  clear hi hz0 hz1 hz2
  have HT0 := Lib.hid (tri_at w low high)
  go_enter Tryd.func72, Tryd.ntmps72
  go_wp2_with fail
  have HB0 := Lib.hid (alloc_below w (.cells #[.int .i64 low, .int .i64 10, .int .i64 high, .int .i64 10, .int .i64 low, .int .i64 20] 38))
  go_loopw [8, 9] (fun u i wr => ∃ k : Nat, k ≤ n ∧ k ≤ 8 ∧ (k = 0 → u = .slice none 0 0) ∧ i = .int .i64 k ∧ wr.ownsRow (w.heap.size + 1) 38 2 u k (cellsP ((x.take k).map (mkP low high))) ∧ Below (w.heap.size + 1) (w.alloc (.cells #[.int .i64 low, .int .i64 10, .int .i64 high, .int .i64 10, .int .i64 low, .int .i64 20] 38)) wr) (fun _ i _ => n - (intOf i).toNat)
  case atStart => exact ⟨0, by omega, by omega, fun _ => rfl, rfl, ⟨rfl, .inl ⟨rfl, rfl⟩⟩, Below.refl _ _⟩
  case round =>
    obtain ⟨k, hk, hk8, hkz, rfl, hown, hB⟩ := hrel
    have HKZ := Lib.hid hkz
    clear hkz
    have HBr := Lib.hid hB
    have HOr := Lib.hid hown
    clear hown hB
    have hk8b : (k : Int) ≤ 8 := by omega
    by_cases hlt : k < n ∧ k < 8
    · obtain ⟨hlt, hlt8⟩ := hlt
      have hlt' : (k : Int) < n := by omega
      have hlt8' : (k : Int) < 8 := by omega
      have hkl : k < x.length := by rw [← HNN.out]; exact hlt
      have HBw := Lib.hid (belowStep HB0.out (HBr.out.mono (by simp)))
      have hv2 := HV.out.via HBw.out
      obtain ⟨⟨a', c', he, _, _, hin⟩, _⟩ := hv2
      rw [← HNN.out] at he
      cases he
      obtain ⟨g, o, rfl, c0, c1⟩ := hin.get hkl
      obtain ⟨⟨i1, i2⟩, i3, i4⟩ := pt_ok HOK.out hkl
      have HSN := Lib.hid (some_next (low := low) (high := high) hkl)
      clear hin hkl
      generalize vx x k = p at *
      obtain ⟨p1, p2⟩ := p
      dsimp only at c0 c1 i1 i2 i3 i4
      have hp := pkI_in (c := p1) (n := high - low + 1) (by omega)
      have hq := pkI_in (c := p2) (n := 41) (by omega)
      have HP1 := Lib.hid (fun w1 => pickR_w p1 (high - low + 1) ⟨i1, i2⟩ (by omega) (by omega) w1)
      have HP2 := Lib.hid (fun w1 => pickR_w p2 41 ⟨i3, i4⟩ (by omega) (by omega) w1)
      have hmk : mkP low high (p1, p2) = (low + pkN p1 (high - low + 1), pkN p2 41) := rfl
      rw [hmk] at HSN
      change 0 ≤ pkN p1 (high - low + 1) ∧ pkN p1 (high - low + 1) < _ at hp
      change 0 ≤ pkN p2 41 ∧ pkN p2 41 < 41 at hq
      generalize pkN p1 (high - low + 1) = A at *
      generalize pkN p2 41 = B at *
      obtain ⟨hp1, hp2⟩ := hp
      obtain ⟨hq1, hq2⟩ := hq
      clear i1 i2 i3 i4 hmk
      have hw1 : IntKind.i64.wrap (high - low) = high - low := IntWalk.i64_in _ (by omega)
      have hw2 : IntKind.i64.wrap (high - low + 1) = high - low + 1 := IntWalk.i64_in _ (by omega)
      have hw3 : IntKind.i64.wrap (low + A) = low + A := IntWalk.i64_in _ (by omega)
      go_wp2_with fail
      refine (wpIn_wide (n := 5)).1 ?_
      refine wpIn_region_T (fun w' => Below wr.drew.heap.size wr.drew w') 21 (by kernel_rfl) ?_
      have hd : Below wr.heap.size wr wr.drew := (Below.refl _ _).drew
      generalize wr.drew = wd at *
      have c0 := keptBelow hd c0
      have c1 := keptBelow hd c1
      refine wpT_tk 0 29 (v := ?_) (Below.refl _ _) rfl rfl (by rfl) (hy := fun w hw => ?_) (h := ?_)
      rotate_left
      · go_simp; with_reducible rfl
      try simp only [Act.put, List.setIfInBounds_toArray, List.set_cons_zero, List.set_cons_succ]
      refine wpT_tk 1 30 (v := ?_) (Below.refl _ _) rfl rfl (by rfl) (hy := fun w hw => ?_) (h := ?_)
      rotate_left
      · go_simp; with_reducible rfl
      try simp only [Act.put, List.setIfInBounds_toArray, List.set_cons_zero, List.set_cons_succ]
      refine wpT_tk 2 31 (v := ?_) (Below.refl _ _) rfl rfl (by rfl) (hy := fun w hw => ?_) (h := ?_)
      rotate_left
      · go_simp; with_reducible rfl
      try simp only [Act.put, List.setIfInBounds_toArray, List.set_cons_zero, List.set_cons_succ]
      refine wpT_tk 3 32 (v := ?_) (Below.refl _ _) rfl rfl (by rfl) (hy := fun w hw => ?_) (h := ?_)
      rotate_left
      · go_simp; with_reducible rfl
      try simp only [Act.put, List.setIfInBounds_toArray, List.set_cons_zero, List.set_cons_succ]
      refine wpT_tk 4 33 (v := ?_) (Below.refl _ _) rfl rfl (by rfl) (hy := fun w hw => ?_) (h := ?_)
      rotate_left
      · go_simp; with_reducible rfl
      try simp only [Act.put, List.setIfInBounds_toArray, List.set_cons_zero, List.set_cons_succ]
      refine wpT_tk 5 34 (v := ?_) (Below.refl _ _) rfl rfl (by rfl) (hy := fun w hw => ?_) (h := ?_)
      rotate_left
      · go_simp; with_reducible rfl
      try simp only [Act.put, List.setIfInBounds_toArray, List.set_cons_zero, List.set_cons_succ]
      refine wpT_tk 6 35 (v := ?_) (Below.refl _ _) rfl rfl (by rfl) (hy := fun w hw => ?_) (h := ?_)
      rotate_left
      · have c0 := keptBelow hw c0; go_simp; with_reducible rfl
      try simp only [Act.put, List.setIfInBounds_toArray, List.set_cons_zero, List.set_cons_succ]
      refine wpT_tk 7 36 (v := ?_) (Below.refl _ _) rfl rfl (by rfl) (hy := fun w hw => ?_) (h := ?_)
      rotate_left
      · go_simp; with_reducible rfl
      try simp only [Act.put, List.setIfInBounds_toArray, List.set_cons_zero, List.set_cons_succ]
      refine wpT_tk 8 37 (v := ?_) (Below.refl _ _) rfl rfl (by rfl) (hy := fun w hw => ?_) (h := ?_)
      rotate_left
      · go_simp; with_reducible rfl
      try simp only [Act.put, List.setIfInBounds_toArray, List.set_cons_zero, List.set_cons_succ]
      refine wpT_tk 9 38 (v := ?_) (Below.refl _ _) rfl rfl (by rfl) (hy := fun w hw => ?_) (h := ?_)
      rotate_left
      · go_simp; with_reducible rfl
      try simp only [Act.put, List.setIfInBounds_toArray, List.set_cons_zero, List.set_cons_succ]
      refine wpT_tk 10 39 (v := ?_) (Below.refl _ _) rfl rfl (by rfl) (hy := fun w hw => ?_) (h := ?_)
      rotate_left
      · go_simp; with_reducible rfl
      try simp only [Act.put, List.setIfInBounds_toArray, List.set_cons_zero, List.set_cons_succ]
      refine wpT_tk 13 42 (v := ?_) (Below.refl _ _) rfl rfl (by rfl) (hy := fun w hw => ?_) (h := ?_)
      rotate_left
      · go_simp; with_reducible rfl
      try simp only [Act.put, List.setIfInBounds_toArray, List.set_cons_zero, List.set_cons_succ]
      refine wpT_tk 14 43 (v := ?_) (Below.refl _ _) rfl rfl (by rfl) (hy := fun w hw => ?_) (h := ?_)
      rotate_left
      · go_simp; with_reducible rfl
      try simp only [Act.put, List.setIfInBounds_toArray, List.set_cons_zero, List.set_cons_succ]
      refine wpT_tk 15 44 (v := ?_) (Below.refl _ _) rfl rfl (by rfl) (hy := fun w hw => ?_) (h := ?_)
      rotate_left
      · go_simp; with_reducible rfl
      try simp only [Act.put, List.setIfInBounds_toArray, List.set_cons_zero, List.set_cons_succ]
      refine wpT_tk 16 45 (v := ?_) (Below.refl _ _) rfl rfl (by rfl) (hy := fun w hw => ?_) (h := ?_)
      rotate_left
      · go_simp; with_reducible rfl
      try simp only [Act.put, List.setIfInBounds_toArray, List.set_cons_zero, List.set_cons_succ]
      refine wpT_tk 17 46 (v := ?_) (Below.refl _ _) rfl rfl (by rfl) (hy := fun w hw => ?_) (h := ?_)
      rotate_left
      · have c1 := keptBelow hw c1; go_simp; with_reducible rfl
      try simp only [Act.put, List.setIfInBounds_toArray, List.set_cons_zero, List.set_cons_succ]
      refine wpT_one 11 rfl rfl (by kernel_rfl) ?_
      go_simp
      refine ⟨trivial, ?_⟩
      refine (callsIn_wide.2 (HP1.out wd)).mono ?_
      rintro e u3 ⟨rfl, rfl⟩
      refine ⟨Below.refl _ _, ?_⟩
      refine wpT_tk 12 41 (v := ?_) (Below.refl _ _) rfl rfl (by rfl) (hy := fun w hw => ?_) (h := ?_)
      rotate_left
      · go_simp; with_reducible rfl
      try simp only [Act.put, List.setIfInBounds_toArray, List.set_cons_zero, List.set_cons_succ]
      refine wpT_one 18 rfl rfl (by kernel_rfl) ?_
      go_simp
      refine ⟨trivial, ?_⟩
      refine (callsIn_wide.2 (HP2.out wd)).mono ?_
      rintro e u3 ⟨rfl, rfl⟩
      refine ⟨Below.refl _ _, ?_⟩
      refine wpT_one 19 rfl rfl (by kernel_rfl) ?_
      go_simp
      refine ⟨Below.refl _ _, ?_⟩
      refine wpT_one 20 rfl rfl (by kernel_rfl) ?_
      go_simp
      refine ⟨alloc_below _ _, ?_⟩
      refine wpT_one 21 rfl rfl (by kernel_rfl) ?_
      have hHB := belowStep hd (alloc_below wd (.cells #[.int .i64 (low + A), .int .i64 B] 38))
      have HN := Lib.hid (news_in (w := wd.alloc (.cells #[.int .i64 (low + A), .int .i64 B] 38)) (g := wd.heap.size) (o := 0) (l := [(low + A, B)]) (fun j hj => by obtain rfl : j = 0 := (by simp at hj; omega); exact ⟨cell_rowN wd _ _ 0 rfl, cell_rowN wd _ _ 1 rfl⟩))
      have HA := Lib.hid (app_ok (n := k) (m := 1) (by omega))
      have HO6 := Lib.hid (own_via HOr.out hHB)
      refine wpIn_append_own _ _ 25 rfl (w.heap.size + 1) 38 i0 (.agg #[.int .i64 0, .int .i64 0]) 2 16 Tryd.underlying25 HI.out HZ0.out HZ1.out HZ2.out rfl (by decide) _ k _ rfl HO6.out ⟨wd.heap.size, 0, none⟩ 1 1 (cellsP [(low + A, B)]) rfl rfl HN.out (cellsP_one _) HA.out.1 HA.out.2 (by have := HBr.out.size; have := hHB.size; simp at *; omega) ?_
      intro v' w5 hown5 hgrow5
      have HB5 := Lib.hid ((HBr.out.trans (hHB.mono (by have := HBr.out.size; simp at this; omega))).grown hgrow5 (by have := HBr.out.size; have := hHB.size; simp at *; omega) (fun k hk => (own_lt HO6.out k hk).1))
      rw [← cellsP_app, ← HSN.out] at hown5
      have HO5 := Lib.hid hown5
      clear hown5 hgrow5
      refine ⟨fun h => (by cases h), ?_⟩
      refine wpT_one 22 rfl rfl (by kernel_rfl) ?_
      go_simp
      refine wpT_done (by kernel_rfl) ?_ _
      go_wp2_with fail
      go_roundw
      case rel => exact ⟨k + 1, by omega, by omega, fun h => by omega, by go_num, HO5.out, HB5.out⟩
      case measure => simp [intOf]; omega
    · have HSA := Lib.hid (some_all (low := low) (high := high) (k := k) (by rw [← HNN.out]; exact hk) hk8 (by rw [← HNN.out]; exact hlt))
      have HBw := Lib.hid (belowStep HB0.out (HBr.out.mono (by simp)))
      rw [HSA.out] at HOr
      have hsl := someP_len x low high
      rw [← HNN.out] at hsl
      have hkl : k = (someP x low high).length := by rw [hsl]; omega
      have HKL := Lib.hid hkl
      have HPS : Hid (PtsAt wr u8 (someP x low high)) := Lib.hid (owns_at (by rw [← hkl]; exact HOr.out) (fun r hr => on_i64 (someP_ons h0 h1 h2 x r hr)))
      have HTR : Hid (PtsAt wr (.slice (some ⟨w.heap.size, 0, none⟩) 3 3) (triP low high)) := Lib.hid ((owns_at HT0.out (fun r hr => on_i64 (by obtain ⟨i, hi, rfl⟩ := mem_vx hr; exact (triP_val h0 h1 h2).on i hi))).via (HBr.out.mono (by simp)))
      have HHU := Lib.hid (fun (hp : 0 < (someP x low high).length) => hull_w (someP x low high) hp (by rw [hsl]; omega) (someP_ons h0 h1 h2 x) _ wr HPS.out)
      have HMD : Hid (madeP x low high = rot (baseP x low high) (turnK x (baseP x low high).length)) := Lib.hid rfl
      have HBA : Hid (baseP x low high = if 3 ≤ (hulP (someP x low high)).length then hulP (someP x low high) else triP low high) := Lib.hid rfl
      have HTK : Hid (∀ m, turnK x m = if n = 0 then 0 else (pkN ((vx x 0).1.tdiv 41) m).toNat) := Lib.hid (fun m => by rw [HNN.out]; rfl)
      have HEQ : Hid (u8 = .slice none 0 0 ∧ k = 0 ∨ ∃ g cap, u8 = .slice (some ⟨g, 0, none⟩) k cap) := Lib.hid (by
        rcases HOr.out.2 with ⟨h, h'⟩ | ⟨g, cap, cur, h, _⟩
        · exact .inl ⟨h, h'⟩
        · exact .inr ⟨g, cap, h⟩)
      have hk0n : k = 0 → n = 0 := by omega
      by_cases hk0 : k = 0
      · have hu := HKZ.out hk0
        subst hk0
        have hn0z : n = 0 := hk0n rfl
        subst hu
        have hsn : someP x low high = [] := List.length_eq_zero_iff.1 hkl.symm
        rw [hsn, if_neg (by rw [hulP_none]; omega)] at HBA
        have HB3 := HBw
        have HLV := HTR
        clear hkl hsl hk0n HHU HPS hsn hlt
        go_wp2_with fail
        refine (wpIn_wide (n := 5)).1 ?_
        refine wpIn_region_T (fun w' => Below wr.drew.heap.size wr.drew w') 8 (by kernel_rfl) ?_
        have hd : Below wr.heap.size wr wr.drew := (Below.refl _ _).drew
        obtain ⟨hLe, hLc, hLc2, hcells⟩ := at_cells (HLV.out.via hd)
        have HLEN := Lib.hid hLe
        clear hLe
        have HRES : Hid (madeP x low high = (triP low high).drop 0 ++ (triP low high).take 0) := Lib.hid (by rw [HMD.out, HBA.out, ← HLEN.out, HTK.out, if_pos hn0z]; rfl)
        have HBW := Lib.hid (belowStep HB3.out hd)
        generalize wr.drew = wd at *
        have HCE := Lib.hid hcells
        clear hcells
        refine wpT_tk 1 72 (v := ?_) (Below.refl _ _) rfl rfl (by rfl) (hy := fun w hw => ?_) (h := ?_)
        rotate_left
        · go_simp; with_reducible rfl
        try simp only [Act.put, List.setIfInBounds_toArray, List.set_cons_zero, List.set_cons_succ]
        refine wpT_tk 2 73 (v := ?_) (Below.refl _ _) rfl rfl (by rfl) (hy := fun w hw => ?_) (h := ?_)
        rotate_left
        · go_simp; with_reducible rfl
        try simp only [Act.put, List.setIfInBounds_toArray, List.set_cons_zero, List.set_cons_succ]
        refine wpT_tk 3 74 (v := ?_) (Below.refl _ _) rfl rfl (by rfl) (hy := fun w hw => ?_) (h := ?_)
        rotate_left
        · go_simp; with_reducible rfl
        try simp only [Act.put, List.setIfInBounds_toArray, List.set_cons_zero, List.set_cons_succ]
        refine wpT_tk 5 76 (v := ?_) (Below.refl _ _) rfl rfl (by rfl) (hy := fun w hw => ?_) (h := ?_)
        rotate_left
        · go_simp; with_reducible rfl
        try simp only [Act.put, List.setIfInBounds_toArray, List.set_cons_zero, List.set_cons_succ]
        refine wpT_tk 6 77 (v := ?_) (Below.refl _ _) rfl rfl (by rfl) (hy := fun w hw => ?_) (h := ?_)
        rotate_left
        · go_simp; with_reducible rfl
        try simp only [Act.put, List.setIfInBounds_toArray, List.set_cons_zero, List.set_cons_succ]
        refine wpT_tk 7 78 (v := ?_) (Below.refl _ _) rfl rfl (by rfl) (hy := fun w hw => ?_) (h := ?_)
        rotate_left
        · go_simp; with_reducible rfl
        try simp only [Act.put, List.setIfInBounds_toArray, List.set_cons_zero, List.set_cons_succ]
        refine wpT_one 0 rfl rfl (by kernel_rfl) ?_
        go_simp
        refine ⟨alloc_below _ _, ?_⟩
        refine wpT_one 4 rfl rfl (by kernel_rfl) ?_
        have HN4 := Lib.hid (news_in (w := wd.alloc (.cells #[] 38)) (g := w.heap.size) (o := 0) (l := (triP low high).drop 0) (fun j hj => by have hj2 := HCE.out (0 + j) (by rw [List.length_drop] at hj; omega); rw [vx_drop, show 0 + j * 2 = 0 + (0 + j) * 2 by omega]; exact ⟨keptBelow (alloc_below _ _) hj2.1, keptBelow (alloc_below _ _) hj2.2⟩))
        have HL4 := Lib.hid (show (cellsP ((triP low high).drop 0)).length = 3 * 2 by rw [cellsP_len, List.length_drop, ← HLEN.out])
        have HL8 := Lib.hid (show (cellsP ((triP low high).take 0)).length = 0 * 2 by rfl)
        have HA4 := Lib.hid (app_ok (n := 0) (m := 3) (by omega))
        have HA8 := Lib.hid (app_ok (n := 0 + 3) (m := 0) (by omega))
        have HEM := Lib.hid (empty_own wd)
        refine wpIn_append_own _ _ 25 rfl wd.heap.size 38 i0 (.agg #[.int .i64 0, .int .i64 0]) 2 16 Tryd.underlying25 HI.out HZ0.out HZ1.out HZ2.out rfl (by decide) _ 0 [] rfl HEM.out ⟨w.heap.size, 0, none⟩ 3 3 (cellsP ((triP low high).drop 0)) rfl HL4.out HN4.out (cellsP_one _) HA4.out.1 HA4.out.2 (by simp) ?_
        intro v4 w4 hown4 hgrow4
        have hB4 := (alloc_below wd (.cells #[] 38)).grown hgrow4 (by simp) (fun k hk => (own_lt HEM.out k hk).1)
        refine ⟨fun _ => hB4, ?_⟩
        refine wpT_one 8 rfl rfl (by kernel_rfl) ?_
        have HN8 := Lib.hid (news_in (w := w4) (g := w.heap.size) (o := 0) (l := (triP low high).take 0) (fun j hj => by rw [List.length_take] at hj; have hj2 := HCE.out j (by omega); rw [vx_take (by omega)]; exact ⟨keptBelow hB4 hj2.1, keptBelow hB4 hj2.2⟩))
        refine wpIn_append_own _ _ 25 rfl wd.heap.size 38 i0 (.agg #[.int .i64 0, .int .i64 0]) 2 16 Tryd.underlying25 HI.out HZ0.out HZ1.out HZ2.out rfl (by decide) _ (0 + 3) _ rfl hown4 ⟨w.heap.size, 0, none⟩ 0 3 (cellsP ((triP low high).take 0)) rfl HL8.out HN8.out (cellsP_one _) HA8.out.1 HA8.out.2 hB4.size ?_
        intro v8 w8 hown8 hgrow8
        have hB8 := hB4.grown hgrow8 hB4.size (fun k hk => (own_lt hown4 k hk).1)
        rw [List.nil_append, ← cellsP_app, show 0 + 3 + 0 = ((triP low high).drop 0 ++ (triP low high).take 0).length by rw [List.length_append, List.length_drop, List.length_take, ← HLEN.out]; omega, ← HRES.out] at hown8
        have HO8 := Lib.hid hown8
        have HB8 := Lib.hid (belowStep HBW.out hB8)
        clear hown4 hgrow4 hown8 hgrow8 hB4 hB8
        refine ⟨fun h => (by cases h), ?_⟩
        refine wpT_one 9 rfl rfl (by kernel_rfl) ?_
        go_simp
        refine wpT_done (by kernel_rfl) ?_ _
        go_wp2_with fail
        go_ret
        exact ⟨_, rfl, owns_at HO8.out (val_ok (madeP_val h0 h1 h2 x)), HB8.out⟩
      · have hn0 : 0 < n := by omega
        have hn0' : ¬ n = 0 := by omega
        rcases HEQ.out with ⟨_, h⟩ | ⟨gs, cs, rfl⟩
        · exact absurd h hk0
        have HHV := Lib.hid (HHU.out (by omega))
        clear hkl hsl hk0n
        rcases Nat.lt_or_ge k n with hkn | hkn
        · have hk8e : k = 8 := by omega
          have hknb : (k : Int) < n := by omega
          have hk8i : (8 : Int) ≤ k := by omega
          clear hk8e hkn hlt
          go_wp2_with fail
          refine HHV.out.mono ?_
          rintro e u3 ⟨r, rfl, hr, hB3⟩
          have HB3 := Lib.hid (belowStep HBw.out hB3)
          have HR3 := Lib.hid hr
          have HTR3 := Lib.hid (HTR.out.via hB3)
          have HV3 := HV.out.via HB3.out
          obtain ⟨⟨ah, ch, rfl, _, _, _⟩, _⟩ := id hr
          obtain ⟨⟨a', c', he, _, _, hin⟩, _⟩ := HV3
          rw [← HNN.out] at he
          cases he
          have hx0 : 0 < x.length := by rw [← HNN.out]; exact hn0
          obtain ⟨g, o, rfl, c0, c1⟩ := hin.get hx0
          have hpi := (pt_ok HOK.out hx0).1
          rw [Nat.zero_mul, Nat.add_zero] at c0 c1
          have htd := tdiv_in hpi
          have HP3 := Lib.hid (fun (m : Int) (h : 0 < m) (h2 : m ≤ 1000) => pickR_w ((vx x 0).1.tdiv 41) m htd h h2 u3)
          have hq : IntKind.i64.wrap ((vx x 0).1.tdiv 41) = (vx x 0).1.tdiv 41 := IntWalk.i64_in _ htd
          clear hin hx0 hr hB3 HHV HHU HTR HV HPS
          have hbl := (baseP_val h0 h1 h2 x).hi
          generalize hulP (someP x low high) = hl at *
          obtain ⟨m, hm⟩ : ∃ m, m = hl.length := ⟨_, rfl⟩
          rw [← hm] at HBA HR3 ⊢
          generalize (vx x 0).1 = p1 at *
          generalize (vx x 0).2 = p2 at *
          by_cases h3 : 3 ≤ m
          · have h3' : (3 : Int) ≤ m := by omega
            rw [if_pos h3] at HBA
            rw [HBA.out, ← hm] at hbl
            obtain ⟨g2, o2, c2, he, _⟩ := at_some HR3.out (by omega)
            rw [← hm] at he
            cases he
            have HLV := HR3
            have HMM := Lib.hid hm
            clear hm
            have HP3m := Lib.hid (HP3.out m (by omega) (by omega))
            have hpk := pkN_in (c := p1.tdiv 41) (n := m) (by omega)
            obtain ⟨K, hK⟩ : ∃ K : Nat, pkN (p1.tdiv 41) m = K := ⟨(pkN (p1.tdiv 41) m).toNat, by omega⟩
            have HKK := Lib.hid hK
            rw [hK] at HP3m hpk
            have hKm : K < m := by omega
            have hKm' : (K : Int) < m := by omega
            clear hK
            go_wp2_with fail
            refine (HP3m.out).mono ?_
            rintro e u4 ⟨rfl, rfl⟩
            go_wp2_with fail
            refine (wpIn_wide (n := 5)).1 ?_
            refine wpIn_region_T (fun w' => Below u3.drew.heap.size u3.drew w') 8 (by kernel_rfl) ?_
            have hd : Below u3.heap.size u3 u3.drew := (Below.refl _ _).drew
            obtain ⟨hLe, hLc, hLc2, hcells⟩ := at_cells (HLV.out.via hd)
            have HLEN := Lib.hid hLe
            clear hLe
            have hK1 : K ≤ m := by omega
            have hK2 : K ≤ ch := by omega
            have hK3 : ¬ ch = K := by omega
            have HRES : Hid (madeP x low high = hl.drop K ++ hl.take K) := Lib.hid (by rw [HMD.out, HBA.out, ← HLEN.out, HTK.out, if_neg hn0', HKK.out]; rfl)
            have HBW := Lib.hid (belowStep HB3.out hd)
            generalize u3.drew = wd at *
            have HCE := Lib.hid hcells
            clear hcells
            refine wpT_tk 1 72 (v := ?_) (Below.refl _ _) rfl rfl (by rfl) (hy := fun w hw => ?_) (h := ?_)
            rotate_left
            · go_simp; with_reducible rfl
            try simp only [Act.put, List.setIfInBounds_toArray, List.set_cons_zero, List.set_cons_succ]
            refine wpT_tk 2 73 (v := ?_) (Below.refl _ _) rfl rfl (by rfl) (hy := fun w hw => ?_) (h := ?_)
            rotate_left
            · go_simp; with_reducible rfl
            try simp only [Act.put, List.setIfInBounds_toArray, List.set_cons_zero, List.set_cons_succ]
            refine wpT_tk 3 74 (v := ?_) (Below.refl _ _) rfl rfl (by rfl) (hy := fun w hw => ?_) (h := ?_)
            rotate_left
            · go_simp; with_reducible rfl
            try simp only [Act.put, List.setIfInBounds_toArray, List.set_cons_zero, List.set_cons_succ]
            refine wpT_tk 5 76 (v := ?_) (Below.refl _ _) rfl rfl (by rfl) (hy := fun w hw => ?_) (h := ?_)
            rotate_left
            · go_simp; with_reducible rfl
            try simp only [Act.put, List.setIfInBounds_toArray, List.set_cons_zero, List.set_cons_succ]
            refine wpT_tk 6 77 (v := ?_) (Below.refl _ _) rfl rfl (by rfl) (hy := fun w hw => ?_) (h := ?_)
            rotate_left
            · go_simp; with_reducible rfl
            try simp only [Act.put, List.setIfInBounds_toArray, List.set_cons_zero, List.set_cons_succ]
            refine wpT_tk 7 78 (v := ?_) (Below.refl _ _) rfl rfl (by rfl) (hy := fun w hw => ?_) (h := ?_)
            rotate_left
            · go_simp; with_reducible rfl
            try simp only [Act.put, List.setIfInBounds_toArray, List.set_cons_zero, List.set_cons_succ]
            refine wpT_one 0 rfl rfl (by kernel_rfl) ?_
            go_simp
            refine ⟨alloc_below _ _, ?_⟩
            refine wpT_one 4 rfl rfl (by kernel_rfl) ?_
            have HN4 := Lib.hid (news_in (w := wd.alloc (.cells #[] 38)) (g := g2) (o := o2 + K * 2) (l := hl.drop K) (fun j hj => by have hj2 := HCE.out (K + j) (by rw [List.length_drop] at hj; omega); rw [vx_drop, show o2 + K * 2 + j * 2 = o2 + (K + j) * 2 by omega]; exact ⟨keptBelow (alloc_below _ _) hj2.1, keptBelow (alloc_below _ _) hj2.2⟩))
            have HL4 := Lib.hid (show (cellsP (hl.drop K)).length = (m - K) * 2 by rw [cellsP_len, List.length_drop, ← HLEN.out])
            have HL8 := Lib.hid (show (cellsP (hl.take K)).length = K * 2 by rw [cellsP_len, List.length_take, ← HLEN.out]; omega)
            have HA4 := Lib.hid (app_ok (n := 0) (m := m - K) (by omega))
            have HA8 := Lib.hid (app_ok (n := 0 + (m - K)) (m := K) (by omega))
            have HEM := Lib.hid (empty_own wd)
            refine wpIn_append_own _ _ 25 rfl wd.heap.size 38 i0 (.agg #[.int .i64 0, .int .i64 0]) 2 16 Tryd.underlying25 HI.out HZ0.out HZ1.out HZ2.out rfl (by decide) _ 0 [] rfl HEM.out ⟨g2, o2 + K * 2, none⟩ (m - K) (ch - K) (cellsP (hl.drop K)) rfl HL4.out HN4.out (cellsP_one _) HA4.out.1 HA4.out.2 (by simp) ?_
            intro v4 w4 hown4 hgrow4
            have hB4 := (alloc_below wd (.cells #[] 38)).grown hgrow4 (by simp) (fun k hk => (own_lt HEM.out k hk).1)
            refine ⟨fun _ => hB4, ?_⟩
            refine wpT_one 8 rfl rfl (by kernel_rfl) ?_
            have HN8 := Lib.hid (news_in (w := w4) (g := g2) (o := o2) (l := hl.take K) (fun j hj => by rw [List.length_take] at hj; have hj2 := HCE.out j (by omega); rw [vx_take (by omega)]; exact ⟨keptBelow hB4 hj2.1, keptBelow hB4 hj2.2⟩))
            refine wpIn_append_own _ _ 25 rfl wd.heap.size 38 i0 (.agg #[.int .i64 0, .int .i64 0]) 2 16 Tryd.underlying25 HI.out HZ0.out HZ1.out HZ2.out rfl (by decide) _ (0 + (m - K)) _ rfl hown4 ⟨g2, o2, none⟩ K ch (cellsP (hl.take K)) rfl HL8.out HN8.out (cellsP_one _) HA8.out.1 HA8.out.2 hB4.size ?_
            intro v8 w8 hown8 hgrow8
            have hB8 := hB4.grown hgrow8 hB4.size (fun k hk => (own_lt hown4 k hk).1)
            rw [List.nil_append, ← cellsP_app, show 0 + (m - K) + K = (hl.drop K ++ hl.take K).length by rw [List.length_append, List.length_drop, List.length_take, ← HLEN.out]; omega, ← HRES.out] at hown8
            have HO8 := Lib.hid hown8
            have HB8 := Lib.hid (belowStep HBW.out hB8)
            clear hown4 hgrow4 hown8 hgrow8 hB4 hB8
            refine ⟨fun h => (by cases h), ?_⟩
            refine wpT_one 9 rfl rfl (by kernel_rfl) ?_
            go_simp
            refine wpT_done (by kernel_rfl) ?_ _
            go_wp2_with fail
            go_ret
            exact ⟨_, rfl, owns_at HO8.out (val_ok (madeP_val h0 h1 h2 x)), HB8.out⟩
          · have h3' : ((m : Nat) : Int) < 3 := by omega
            rw [if_neg h3] at HBA
            have HLV := HTR3
            clear hm
            have hbl : (3 : Nat) ≤ 8 := by omega
            have HP3m := Lib.hid (HP3.out (3 : Nat) (by omega) (by omega))
            have hpk := pkN_in (c := p1.tdiv 41) (n := (3 : Nat)) (by omega)
            obtain ⟨K, hK⟩ : ∃ K : Nat, pkN (p1.tdiv 41) (3 : Nat) = K := ⟨(pkN (p1.tdiv 41) (3 : Nat)).toNat, by omega⟩
            have HKK := Lib.hid hK
            rw [hK] at HP3m hpk
            have hKm : K < 3 := by omega
            have hKm' : (K : Int) < 3 := by omega
            clear hK
            go_wp2_with fail
            refine (HP3m.out).mono ?_
            rintro e u4 ⟨rfl, rfl⟩
            go_wp2_with fail
            refine (wpIn_wide (n := 5)).1 ?_
            refine wpIn_region_T (fun w' => Below u3.drew.heap.size u3.drew w') 8 (by kernel_rfl) ?_
            have hd : Below u3.heap.size u3 u3.drew := (Below.refl _ _).drew
            obtain ⟨hLe, hLc, hLc2, hcells⟩ := at_cells (HLV.out.via hd)
            have HLEN := Lib.hid hLe
            clear hLe
            have hK1 : K ≤ 3 := by omega
            have hK2 : K ≤ 3 := by omega
            have hK3 : ¬ 3 = K := by omega
            have HRES : Hid (madeP x low high = (triP low high).drop K ++ (triP low high).take K) := Lib.hid (by rw [HMD.out, HBA.out, ← HLEN.out, HTK.out, if_neg hn0', HKK.out]; rfl)
            have HBW := Lib.hid (belowStep HB3.out hd)
            have hK4 : (K : Int) ≤ 3 := by omega
            generalize u3.drew = wd at *
            have HCE := Lib.hid hcells
            clear hcells
            refine wpT_tk 1 72 (v := ?_) (Below.refl _ _) rfl rfl (by rfl) (hy := fun w hw => ?_) (h := ?_)
            rotate_left
            · go_simp; with_reducible rfl
            try simp only [Act.put, List.setIfInBounds_toArray, List.set_cons_zero, List.set_cons_succ]
            refine wpT_tk 2 73 (v := ?_) (Below.refl _ _) rfl rfl (by rfl) (hy := fun w hw => ?_) (h := ?_)
            rotate_left
            · go_simp; with_reducible rfl
            try simp only [Act.put, List.setIfInBounds_toArray, List.set_cons_zero, List.set_cons_succ]
            refine wpT_tk 3 74 (v := ?_) (Below.refl _ _) rfl rfl (by rfl) (hy := fun w hw => ?_) (h := ?_)
            rotate_left
            · go_simp; with_reducible rfl
            try simp only [Act.put, List.setIfInBounds_toArray, List.set_cons_zero, List.set_cons_succ]
            refine wpT_tk 5 76 (v := ?_) (Below.refl _ _) rfl rfl (by rfl) (hy := fun w hw => ?_) (h := ?_)
            rotate_left
            · go_simp; with_reducible rfl
            try simp only [Act.put, List.setIfInBounds_toArray, List.set_cons_zero, List.set_cons_succ]
            refine wpT_tk 6 77 (v := ?_) (Below.refl _ _) rfl rfl (by rfl) (hy := fun w hw => ?_) (h := ?_)
            rotate_left
            · go_simp; with_reducible rfl
            try simp only [Act.put, List.setIfInBounds_toArray, List.set_cons_zero, List.set_cons_succ]
            refine wpT_tk 7 78 (v := ?_) (Below.refl _ _) rfl rfl (by rfl) (hy := fun w hw => ?_) (h := ?_)
            rotate_left
            · go_simp; with_reducible rfl
            try simp only [Act.put, List.setIfInBounds_toArray, List.set_cons_zero, List.set_cons_succ]
            refine wpT_one 0 rfl rfl (by kernel_rfl) ?_
            go_simp
            refine ⟨alloc_below _ _, ?_⟩
            refine wpT_one 4 rfl rfl (by kernel_rfl) ?_
            have HN4 := Lib.hid (news_in (w := wd.alloc (.cells #[] 38)) (g := w.heap.size) (o := K * 2) (l := (triP low high).drop K) (fun j hj => by have hj2 := HCE.out (K + j) (by rw [List.length_drop] at hj; omega); rw [vx_drop, show K * 2 + j * 2 = 0 + (K + j) * 2 by omega]; exact ⟨keptBelow (alloc_below _ _) hj2.1, keptBelow (alloc_below _ _) hj2.2⟩))
            have HL4 := Lib.hid (show (cellsP ((triP low high).drop K)).length = (3 - K) * 2 by rw [cellsP_len, List.length_drop, ← HLEN.out])
            have HL8 := Lib.hid (show (cellsP ((triP low high).take K)).length = K * 2 by rw [cellsP_len, List.length_take, ← HLEN.out]; omega)
            have HA4 := Lib.hid (app_ok (n := 0) (m := 3 - K) (by omega))
            have HA8 := Lib.hid (app_ok (n := 0 + (3 - K)) (m := K) (by omega))
            have HEM := Lib.hid (empty_own wd)
            refine wpIn_append_own _ _ 25 rfl wd.heap.size 38 i0 (.agg #[.int .i64 0, .int .i64 0]) 2 16 Tryd.underlying25 HI.out HZ0.out HZ1.out HZ2.out rfl (by decide) _ 0 [] rfl HEM.out ⟨w.heap.size, K * 2, none⟩ (3 - K) (3 - K) (cellsP ((triP low high).drop K)) rfl HL4.out HN4.out (cellsP_one _) HA4.out.1 HA4.out.2 (by simp) ?_
            intro v4 w4 hown4 hgrow4
            have hB4 := (alloc_below wd (.cells #[] 38)).grown hgrow4 (by simp) (fun k hk => (own_lt HEM.out k hk).1)
            refine ⟨fun _ => hB4, ?_⟩
            refine wpT_one 8 rfl rfl (by kernel_rfl) ?_
            have HN8 := Lib.hid (news_in (w := w4) (g := w.heap.size) (o := 0) (l := (triP low high).take K) (fun j hj => by rw [List.length_take] at hj; have hj2 := HCE.out j (by omega); rw [vx_take (by omega)]; exact ⟨keptBelow hB4 hj2.1, keptBelow hB4 hj2.2⟩))
            refine wpIn_append_own _ _ 25 rfl wd.heap.size 38 i0 (.agg #[.int .i64 0, .int .i64 0]) 2 16 Tryd.underlying25 HI.out HZ0.out HZ1.out HZ2.out rfl (by decide) _ (0 + (3 - K)) _ rfl hown4 ⟨w.heap.size, 0, none⟩ K 3 (cellsP ((triP low high).take K)) rfl HL8.out HN8.out (cellsP_one _) HA8.out.1 HA8.out.2 hB4.size ?_
            intro v8 w8 hown8 hgrow8
            have hB8 := hB4.grown hgrow8 hB4.size (fun k hk => (own_lt hown4 k hk).1)
            rw [List.nil_append, ← cellsP_app, show 0 + (3 - K) + K = ((triP low high).drop K ++ (triP low high).take K).length by rw [List.length_append, List.length_drop, List.length_take, ← HLEN.out]; omega, ← HRES.out] at hown8
            have HO8 := Lib.hid hown8
            have HB8 := Lib.hid (belowStep HBW.out hB8)
            clear hown4 hgrow4 hown8 hgrow8 hB4 hB8
            refine ⟨fun h => (by cases h), ?_⟩
            refine wpT_one 9 rfl rfl (by kernel_rfl) ?_
            go_simp
            refine wpT_done (by kernel_rfl) ?_ _
            go_wp2_with fail
            go_ret
            exact ⟨_, rfl, owns_at HO8.out (val_ok (madeP_val h0 h1 h2 x)), HB8.out⟩
        · have hkne : (n : Int) ≤ k := by omega
          clear hkn hlt
          go_wp2_with fail
          refine HHV.out.mono ?_
          rintro e u3 ⟨r, rfl, hr, hB3⟩
          have HB3 := Lib.hid (belowStep HBw.out hB3)
          have HR3 := Lib.hid hr
          have HTR3 := Lib.hid (HTR.out.via hB3)
          have HV3 := HV.out.via HB3.out
          obtain ⟨⟨ah, ch, rfl, _, _, _⟩, _⟩ := id hr
          obtain ⟨⟨a', c', he, _, _, hin⟩, _⟩ := HV3
          rw [← HNN.out] at he
          cases he
          have hx0 : 0 < x.length := by rw [← HNN.out]; exact hn0
          obtain ⟨g, o, rfl, c0, c1⟩ := hin.get hx0
          have hpi := (pt_ok HOK.out hx0).1
          rw [Nat.zero_mul, Nat.add_zero] at c0 c1
          have htd := tdiv_in hpi
          have HP3 := Lib.hid (fun (m : Int) (h : 0 < m) (h2 : m ≤ 1000) => pickR_w ((vx x 0).1.tdiv 41) m htd h h2 u3)
          have hq : IntKind.i64.wrap ((vx x 0).1.tdiv 41) = (vx x 0).1.tdiv 41 := IntWalk.i64_in _ htd
          clear hin hx0 hr hB3 HHV HHU HTR HV HPS
          have hbl := (baseP_val h0 h1 h2 x).hi
          generalize hulP (someP x low high) = hl at *
          obtain ⟨m, hm⟩ : ∃ m, m = hl.length := ⟨_, rfl⟩
          rw [← hm] at HBA HR3 ⊢
          generalize (vx x 0).1 = p1 at *
          generalize (vx x 0).2 = p2 at *
          by_cases h3 : 3 ≤ m
          · have h3' : (3 : Int) ≤ m := by omega
            rw [if_pos h3] at HBA
            rw [HBA.out, ← hm] at hbl
            obtain ⟨g2, o2, c2, he, _⟩ := at_some HR3.out (by omega)
            rw [← hm] at he
            cases he
            have HLV := HR3
            have HMM := Lib.hid hm
            clear hm
            have HP3m := Lib.hid (HP3.out m (by omega) (by omega))
            have hpk := pkN_in (c := p1.tdiv 41) (n := m) (by omega)
            obtain ⟨K, hK⟩ : ∃ K : Nat, pkN (p1.tdiv 41) m = K := ⟨(pkN (p1.tdiv 41) m).toNat, by omega⟩
            have HKK := Lib.hid hK
            rw [hK] at HP3m hpk
            have hKm : K < m := by omega
            have hKm' : (K : Int) < m := by omega
            clear hK
            go_wp2_with fail
            refine (HP3m.out).mono ?_
            rintro e u4 ⟨rfl, rfl⟩
            go_wp2_with fail
            refine (wpIn_wide (n := 5)).1 ?_
            refine wpIn_region_T (fun w' => Below u3.drew.heap.size u3.drew w') 8 (by kernel_rfl) ?_
            have hd : Below u3.heap.size u3 u3.drew := (Below.refl _ _).drew
            obtain ⟨hLe, hLc, hLc2, hcells⟩ := at_cells (HLV.out.via hd)
            have HLEN := Lib.hid hLe
            clear hLe
            have hK1 : K ≤ m := by omega
            have hK2 : K ≤ ch := by omega
            have hK3 : ¬ ch = K := by omega
            have HRES : Hid (madeP x low high = hl.drop K ++ hl.take K) := Lib.hid (by rw [HMD.out, HBA.out, ← HLEN.out, HTK.out, if_neg hn0', HKK.out]; rfl)
            have HBW := Lib.hid (belowStep HB3.out hd)
            generalize u3.drew = wd at *
            have HCE := Lib.hid hcells
            clear hcells
            refine wpT_tk 1 72 (v := ?_) (Below.refl _ _) rfl rfl (by rfl) (hy := fun w hw => ?_) (h := ?_)
            rotate_left
            · go_simp; with_reducible rfl
            try simp only [Act.put, List.setIfInBounds_toArray, List.set_cons_zero, List.set_cons_succ]
            refine wpT_tk 2 73 (v := ?_) (Below.refl _ _) rfl rfl (by rfl) (hy := fun w hw => ?_) (h := ?_)
            rotate_left
            · go_simp; with_reducible rfl
            try simp only [Act.put, List.setIfInBounds_toArray, List.set_cons_zero, List.set_cons_succ]
            refine wpT_tk 3 74 (v := ?_) (Below.refl _ _) rfl rfl (by rfl) (hy := fun w hw => ?_) (h := ?_)
            rotate_left
            · go_simp; with_reducible rfl
            try simp only [Act.put, List.setIfInBounds_toArray, List.set_cons_zero, List.set_cons_succ]
            refine wpT_tk 5 76 (v := ?_) (Below.refl _ _) rfl rfl (by rfl) (hy := fun w hw => ?_) (h := ?_)
            rotate_left
            · go_simp; with_reducible rfl
            try simp only [Act.put, List.setIfInBounds_toArray, List.set_cons_zero, List.set_cons_succ]
            refine wpT_tk 6 77 (v := ?_) (Below.refl _ _) rfl rfl (by rfl) (hy := fun w hw => ?_) (h := ?_)
            rotate_left
            · go_simp; with_reducible rfl
            try simp only [Act.put, List.setIfInBounds_toArray, List.set_cons_zero, List.set_cons_succ]
            refine wpT_tk 7 78 (v := ?_) (Below.refl _ _) rfl rfl (by rfl) (hy := fun w hw => ?_) (h := ?_)
            rotate_left
            · go_simp; with_reducible rfl
            try simp only [Act.put, List.setIfInBounds_toArray, List.set_cons_zero, List.set_cons_succ]
            refine wpT_one 0 rfl rfl (by kernel_rfl) ?_
            go_simp
            refine ⟨alloc_below _ _, ?_⟩
            refine wpT_one 4 rfl rfl (by kernel_rfl) ?_
            have HN4 := Lib.hid (news_in (w := wd.alloc (.cells #[] 38)) (g := g2) (o := o2 + K * 2) (l := hl.drop K) (fun j hj => by have hj2 := HCE.out (K + j) (by rw [List.length_drop] at hj; omega); rw [vx_drop, show o2 + K * 2 + j * 2 = o2 + (K + j) * 2 by omega]; exact ⟨keptBelow (alloc_below _ _) hj2.1, keptBelow (alloc_below _ _) hj2.2⟩))
            have HL4 := Lib.hid (show (cellsP (hl.drop K)).length = (m - K) * 2 by rw [cellsP_len, List.length_drop, ← HLEN.out])
            have HL8 := Lib.hid (show (cellsP (hl.take K)).length = K * 2 by rw [cellsP_len, List.length_take, ← HLEN.out]; omega)
            have HA4 := Lib.hid (app_ok (n := 0) (m := m - K) (by omega))
            have HA8 := Lib.hid (app_ok (n := 0 + (m - K)) (m := K) (by omega))
            have HEM := Lib.hid (empty_own wd)
            refine wpIn_append_own _ _ 25 rfl wd.heap.size 38 i0 (.agg #[.int .i64 0, .int .i64 0]) 2 16 Tryd.underlying25 HI.out HZ0.out HZ1.out HZ2.out rfl (by decide) _ 0 [] rfl HEM.out ⟨g2, o2 + K * 2, none⟩ (m - K) (ch - K) (cellsP (hl.drop K)) rfl HL4.out HN4.out (cellsP_one _) HA4.out.1 HA4.out.2 (by simp) ?_
            intro v4 w4 hown4 hgrow4
            have hB4 := (alloc_below wd (.cells #[] 38)).grown hgrow4 (by simp) (fun k hk => (own_lt HEM.out k hk).1)
            refine ⟨fun _ => hB4, ?_⟩
            refine wpT_one 8 rfl rfl (by kernel_rfl) ?_
            have HN8 := Lib.hid (news_in (w := w4) (g := g2) (o := o2) (l := hl.take K) (fun j hj => by rw [List.length_take] at hj; have hj2 := HCE.out j (by omega); rw [vx_take (by omega)]; exact ⟨keptBelow hB4 hj2.1, keptBelow hB4 hj2.2⟩))
            refine wpIn_append_own _ _ 25 rfl wd.heap.size 38 i0 (.agg #[.int .i64 0, .int .i64 0]) 2 16 Tryd.underlying25 HI.out HZ0.out HZ1.out HZ2.out rfl (by decide) _ (0 + (m - K)) _ rfl hown4 ⟨g2, o2, none⟩ K ch (cellsP (hl.take K)) rfl HL8.out HN8.out (cellsP_one _) HA8.out.1 HA8.out.2 hB4.size ?_
            intro v8 w8 hown8 hgrow8
            have hB8 := hB4.grown hgrow8 hB4.size (fun k hk => (own_lt hown4 k hk).1)
            rw [List.nil_append, ← cellsP_app, show 0 + (m - K) + K = (hl.drop K ++ hl.take K).length by rw [List.length_append, List.length_drop, List.length_take, ← HLEN.out]; omega, ← HRES.out] at hown8
            have HO8 := Lib.hid hown8
            have HB8 := Lib.hid (belowStep HBW.out hB8)
            clear hown4 hgrow4 hown8 hgrow8 hB4 hB8
            refine ⟨fun h => (by cases h), ?_⟩
            refine wpT_one 9 rfl rfl (by kernel_rfl) ?_
            go_simp
            refine wpT_done (by kernel_rfl) ?_ _
            go_wp2_with fail
            go_ret
            exact ⟨_, rfl, owns_at HO8.out (val_ok (madeP_val h0 h1 h2 x)), HB8.out⟩
          · have h3' : ((m : Nat) : Int) < 3 := by omega
            rw [if_neg h3] at HBA
            have HLV := HTR3
            clear hm
            have hbl : (3 : Nat) ≤ 8 := by omega
            have HP3m := Lib.hid (HP3.out (3 : Nat) (by omega) (by omega))
            have hpk := pkN_in (c := p1.tdiv 41) (n := (3 : Nat)) (by omega)
            obtain ⟨K, hK⟩ : ∃ K : Nat, pkN (p1.tdiv 41) (3 : Nat) = K := ⟨(pkN (p1.tdiv 41) (3 : Nat)).toNat, by omega⟩
            have HKK := Lib.hid hK
            rw [hK] at HP3m hpk
            have hKm : K < 3 := by omega
            have hKm' : (K : Int) < 3 := by omega
            clear hK
            go_wp2_with fail
            refine (HP3m.out).mono ?_
            rintro e u4 ⟨rfl, rfl⟩
            go_wp2_with fail
            refine (wpIn_wide (n := 5)).1 ?_
            refine wpIn_region_T (fun w' => Below u3.drew.heap.size u3.drew w') 8 (by kernel_rfl) ?_
            have hd : Below u3.heap.size u3 u3.drew := (Below.refl _ _).drew
            obtain ⟨hLe, hLc, hLc2, hcells⟩ := at_cells (HLV.out.via hd)
            have HLEN := Lib.hid hLe
            clear hLe
            have hK1 : K ≤ 3 := by omega
            have hK2 : K ≤ 3 := by omega
            have hK3 : ¬ 3 = K := by omega
            have HRES : Hid (madeP x low high = (triP low high).drop K ++ (triP low high).take K) := Lib.hid (by rw [HMD.out, HBA.out, ← HLEN.out, HTK.out, if_neg hn0', HKK.out]; rfl)
            have HBW := Lib.hid (belowStep HB3.out hd)
            have hK4 : (K : Int) ≤ 3 := by omega
            generalize u3.drew = wd at *
            have HCE := Lib.hid hcells
            clear hcells
            refine wpT_tk 1 72 (v := ?_) (Below.refl _ _) rfl rfl (by rfl) (hy := fun w hw => ?_) (h := ?_)
            rotate_left
            · go_simp; with_reducible rfl
            try simp only [Act.put, List.setIfInBounds_toArray, List.set_cons_zero, List.set_cons_succ]
            refine wpT_tk 2 73 (v := ?_) (Below.refl _ _) rfl rfl (by rfl) (hy := fun w hw => ?_) (h := ?_)
            rotate_left
            · go_simp; with_reducible rfl
            try simp only [Act.put, List.setIfInBounds_toArray, List.set_cons_zero, List.set_cons_succ]
            refine wpT_tk 3 74 (v := ?_) (Below.refl _ _) rfl rfl (by rfl) (hy := fun w hw => ?_) (h := ?_)
            rotate_left
            · go_simp; with_reducible rfl
            try simp only [Act.put, List.setIfInBounds_toArray, List.set_cons_zero, List.set_cons_succ]
            refine wpT_tk 5 76 (v := ?_) (Below.refl _ _) rfl rfl (by rfl) (hy := fun w hw => ?_) (h := ?_)
            rotate_left
            · go_simp; with_reducible rfl
            try simp only [Act.put, List.setIfInBounds_toArray, List.set_cons_zero, List.set_cons_succ]
            refine wpT_tk 6 77 (v := ?_) (Below.refl _ _) rfl rfl (by rfl) (hy := fun w hw => ?_) (h := ?_)
            rotate_left
            · go_simp; with_reducible rfl
            try simp only [Act.put, List.setIfInBounds_toArray, List.set_cons_zero, List.set_cons_succ]
            refine wpT_tk 7 78 (v := ?_) (Below.refl _ _) rfl rfl (by rfl) (hy := fun w hw => ?_) (h := ?_)
            rotate_left
            · go_simp; with_reducible rfl
            try simp only [Act.put, List.setIfInBounds_toArray, List.set_cons_zero, List.set_cons_succ]
            refine wpT_one 0 rfl rfl (by kernel_rfl) ?_
            go_simp
            refine ⟨alloc_below _ _, ?_⟩
            refine wpT_one 4 rfl rfl (by kernel_rfl) ?_
            have HN4 := Lib.hid (news_in (w := wd.alloc (.cells #[] 38)) (g := w.heap.size) (o := K * 2) (l := (triP low high).drop K) (fun j hj => by have hj2 := HCE.out (K + j) (by rw [List.length_drop] at hj; omega); rw [vx_drop, show K * 2 + j * 2 = 0 + (K + j) * 2 by omega]; exact ⟨keptBelow (alloc_below _ _) hj2.1, keptBelow (alloc_below _ _) hj2.2⟩))
            have HL4 := Lib.hid (show (cellsP ((triP low high).drop K)).length = (3 - K) * 2 by rw [cellsP_len, List.length_drop, ← HLEN.out])
            have HL8 := Lib.hid (show (cellsP ((triP low high).take K)).length = K * 2 by rw [cellsP_len, List.length_take, ← HLEN.out]; omega)
            have HA4 := Lib.hid (app_ok (n := 0) (m := 3 - K) (by omega))
            have HA8 := Lib.hid (app_ok (n := 0 + (3 - K)) (m := K) (by omega))
            have HEM := Lib.hid (empty_own wd)
            refine wpIn_append_own _ _ 25 rfl wd.heap.size 38 i0 (.agg #[.int .i64 0, .int .i64 0]) 2 16 Tryd.underlying25 HI.out HZ0.out HZ1.out HZ2.out rfl (by decide) _ 0 [] rfl HEM.out ⟨w.heap.size, K * 2, none⟩ (3 - K) (3 - K) (cellsP ((triP low high).drop K)) rfl HL4.out HN4.out (cellsP_one _) HA4.out.1 HA4.out.2 (by simp) ?_
            intro v4 w4 hown4 hgrow4
            have hB4 := (alloc_below wd (.cells #[] 38)).grown hgrow4 (by simp) (fun k hk => (own_lt HEM.out k hk).1)
            refine ⟨fun _ => hB4, ?_⟩
            refine wpT_one 8 rfl rfl (by kernel_rfl) ?_
            have HN8 := Lib.hid (news_in (w := w4) (g := w.heap.size) (o := 0) (l := (triP low high).take K) (fun j hj => by rw [List.length_take] at hj; have hj2 := HCE.out j (by omega); rw [vx_take (by omega)]; exact ⟨keptBelow hB4 hj2.1, keptBelow hB4 hj2.2⟩))
            refine wpIn_append_own _ _ 25 rfl wd.heap.size 38 i0 (.agg #[.int .i64 0, .int .i64 0]) 2 16 Tryd.underlying25 HI.out HZ0.out HZ1.out HZ2.out rfl (by decide) _ (0 + (3 - K)) _ rfl hown4 ⟨w.heap.size, 0, none⟩ K 3 (cellsP ((triP low high).take K)) rfl HL8.out HN8.out (cellsP_one _) HA8.out.1 HA8.out.2 hB4.size ?_
            intro v8 w8 hown8 hgrow8
            have hB8 := hB4.grown hgrow8 hB4.size (fun k hk => (own_lt hown4 k hk).1)
            rw [List.nil_append, ← cellsP_app, show 0 + (3 - K) + K = ((triP low high).drop K ++ (triP low high).take K).length by rw [List.length_append, List.length_drop, List.length_take, ← HLEN.out]; omega, ← HRES.out] at hown8
            have HO8 := Lib.hid hown8
            have HB8 := Lib.hid (belowStep HBW.out hB8)
            clear hown4 hgrow4 hown8 hgrow8 hB4 hB8
            refine ⟨fun h => (by cases h), ?_⟩
            refine wpT_one 9 rfl rfl (by kernel_rfl) ?_
            go_simp
            refine wpT_done (by kernel_rfl) ?_ _
            go_wp2_with fail
            go_ret
            exact ⟨_, rfl, owns_at HO8.out (val_ok (madeP_val h0 h1 h2 x)), HB8.out⟩
end Go.Proofs.YtcamncipkofgkaaDoor
/- PlnMap: The contract of onMap. -/
namespace Go.Proofs.YtcamncipkofgkaaDoor
open Go.RowKit Go.Shelf Pln

theorem onB_yes {p : Pt} (h1 : 0 ≤ p.1) (h2 : p.1 ≤ 40) (h3 : 0 ≤ p.2) (h4 : p.2 ≤ 40) : onB p = true := (onB_iff p).2 ⟨h1, h2, h3, h4⟩
theorem onB_no {p : Pt} (h : p.1 < 0 ∨ 40 < p.1 ∨ p.2 < 0 ∨ 40 < p.2) : onB p = false := by
  rcases e : onB p with _ | _
  · rfl
  · have q := (onB_iff p).1 e
    have := q.x0; have := q.x1; have := q.y0; have := q.y1
    omega
theorem onsB_no {l : List Pt} {k n : Nat} (hk : k < n) (h : onB (vx l k) = false) : onsB l n = false := by
  rcases e : onsB l n with _ | _
  · rfl
  · have := (onsB_iff l n).1 e k hk
    rw [(onB_iff _).2 this] at h; exact Bool.noConfusion h
theorem onsB_all {l : List Pt} {n : Nat} (h : ∀ j, j < n → onB (vx l j) = true) : onsB l n = true := (onsB_iff l n).2 fun j hj => (onB_iff _).1 (h j hj)
theorem snoc_all {P : Nat → Prop} {k : Nat} (h : ∀ j, j < k → P j) (hk : P k) : ∀ j, j < k + 1 → P j := fun j hj => by
  by_cases e : j = k
  · rw [e]; exact hk
  · exact h j (by omega)
set_option maxRecDepth 100000 in
set_option maxHeartbeats 4000000 in
theorem onMap_w (l : List Pt) (hl : (l.length : Int) ≤ 4611686018427387904) (v : Value) (w : World) (hv : PtsAt w v l) :
    Calls Tryd.prog 67 #[v] w fun e w' => e = .returned (.bool (onsB l l.length)) ∧ Below w.heap.size w w' := by
  have HV := Lib.hid hv
  obtain ⟨⟨a, c, rfl, _, _, _⟩, hok⟩ := hv
  obtain ⟨m, hm⟩ : ∃ m, m = l.length := ⟨_, rfl⟩
  have HM := Lib.hid hm
  have hmb : (m : Int) ≤ 4611686018427387904 := by omega
  rw [← hm] at HV ⊢
  clear hm hl
  go_enter Tryd.func67, Tryd.ntmps67
  go_wp2_with fail
  go_loopw [7] (fun i wr => ∃ k : Nat, k ≤ m ∧ i = .int .i64 k ∧ (∀ j, j < k → onB (vx l j) = true) ∧ Below w.heap.size w wr) (fun i _ => m - (intOf i).toNat)
  case atStart => exact ⟨0, by omega, rfl, fun j hj => by omega, Below.refl _ _⟩
  case round =>
    obtain ⟨k, hk, rfl, ha, hB⟩ := hrel
    have HA := Lib.hid ha
    clear ha
    by_cases hlt : k < m
    · have hlt' : (k : Int) < m := by omega
      have hkl : k < l.length := by rw [← HM.out]; exact hlt
      have hv2 := HV.out.via hB
      obtain ⟨⟨a', c', he, _, _, hin⟩, _⟩ := hv2
      rw [← HM.out] at he
      cases he
      obtain ⟨g', o, rfl, c0, c1⟩ := hin.get hkl
      obtain ⟨⟨i1, i2⟩, i3, i4⟩ := pt_ok hok hkl
      have HY : Hid (0 ≤ (vx l k).1 → (vx l k).1 ≤ 40 → 0 ≤ (vx l k).2 → (vx l k).2 ≤ 40 → onB (vx l k) = true) := Lib.hid onB_yes
      have HN : Hid ((vx l k).1 < 0 ∨ 40 < (vx l k).1 ∨ (vx l k).2 < 0 ∨ 40 < (vx l k).2 → onsB l m = false) := Lib.hid (fun h => onsB_no hlt (onB_no h))
      have HV2 := Lib.hid hin
      clear hin hok
      have HB2 : Hid (Below w.heap.size w (wr.alloc (.cells #[.int .i64 (vx l k).1, .int .i64 (vx l k).2] 38))) := Lib.hid (belowStep hB (alloc_below _ _))
      generalize hx : (vx l k).1 = x at *
      generalize hy : (vx l k).2 = y at *
      have HH := Lib.hid (And.intro hx hy)
      clear hx hy
      rcases Int.lt_trichotomy y x with hyx | hyx | hyx
      · rcases Int.lt_or_le y 0 with h0 | h0
        · go_wp2_with fail
          go_ret
          exact ⟨ret_bool (HN.out (by omega)).symm, HB2.out⟩
        · rcases Int.lt_or_le 40 x with h4 | h4
          · go_wp2_with fail
            go_ret
            exact ⟨ret_bool (HN.out (by omega)).symm, HB2.out⟩
          · go_wp2_with fail
            go_roundw
            case rel => exact ⟨k + 1, by omega, by go_num, snoc_all HA.out (HY.out (by omega) (by omega) (by omega) (by omega)), HB2.out⟩
            case measure => simp [intOf]; omega
      · obtain rfl : y = x := hyx
        rcases Int.lt_or_le y 0 with h0 | h0
        · go_wp2_with fail
          go_ret
          exact ⟨ret_bool (HN.out (by omega)).symm, HB2.out⟩
        · rcases Int.lt_or_le 40 y with h4 | h4
          · go_wp2_with fail
            go_ret
            exact ⟨ret_bool (HN.out (by omega)).symm, HB2.out⟩
          · go_wp2_with fail
            go_roundw
            case rel => exact ⟨k + 1, by omega, by go_num, snoc_all HA.out (HY.out (by omega) (by omega) (by omega) (by omega)), HB2.out⟩
            case measure => simp [intOf]; omega
      · rcases Int.lt_or_le x 0 with h0 | h0
        · go_wp2_with fail
          go_ret
          exact ⟨ret_bool (HN.out (by omega)).symm, HB2.out⟩
        · rcases Int.lt_or_le 40 y with h4 | h4
          · go_wp2_with fail
            go_ret
            exact ⟨ret_bool (HN.out (by omega)).symm, HB2.out⟩
          · go_wp2_with fail
            go_roundw
            case rel => exact ⟨k + 1, by omega, by go_num, snoc_all HA.out (HY.out (by omega) (by omega) (by omega) (by omega)), HB2.out⟩
            case measure => simp [intOf]; omega
    · obtain rfl : k = m := by omega
      go_wp2_with fail
      go_ret
      exact ⟨ret_bool (onsB_all HA.out).symm, hB⟩
end Go.Proofs.YtcamncipkofgkaaDoor
/- PlnRefB: The contracts of the reference's OnMap and walk. -/
namespace Go.Proofs.YtcamncipkofgkaaDoor
open Go.RowKit Go.Shelf Pln

set_option maxRecDepth 100000 in
set_option maxHeartbeats 1000000 in
theorem onMapR_w (p1 p2 : Int) (w : World) :
    Calls Tryd.prog 76 #[.agg #[.int .i64 p1, .int .i64 p2]] w fun e w' => e = .returned (.bool (onB (p1, p2))) ∧ Below w.heap.size w w' := by
  by_cases h1 : 0 ≤ p1
  · by_cases h2 : p1 ≤ 40
    · by_cases h3 : 0 ≤ p2
      · by_cases h4 : p2 ≤ 40
        · have HR := Lib.hid (onB_yes (p := (p1, p2)) h1 h2 h3 h4)
          go_enter Tryd.func76, Tryd.ntmps76
          go_wp2_with fail
          go_ret
          exact ⟨ret_bool HR.out.symm, alloc_below _ _⟩
        · have HR := Lib.hid (onB_no (p := (p1, p2)) (.inr (.inr (.inr (by dsimp only; omega)))))
          have h5 : 40 < p2 := by omega
          clear h4
          go_enter Tryd.func76, Tryd.ntmps76
          go_wp2_with fail
          go_ret
          exact ⟨ret_bool ((decide_eq_false (by omega)).trans HR.out.symm), alloc_below _ _⟩
      · have HR := Lib.hid (onB_no (p := (p1, p2)) (.inr (.inr (.inl (by dsimp only; omega)))))
        have h5 : p2 < 0 := by omega
        clear h3
        go_enter Tryd.func76, Tryd.ntmps76
        go_wp2_with fail
        go_ret
        exact ⟨ret_bool HR.out.symm, alloc_below _ _⟩
    · have HR := Lib.hid (onB_no (p := (p1, p2)) (.inr (.inl (by dsimp only; omega))))
      have h5 : 40 < p1 := by omega
      clear h2
      go_enter Tryd.func76, Tryd.ntmps76
      go_wp2_with fail
      go_ret
      exact ⟨ret_bool HR.out.symm, alloc_below _ _⟩
  · have HR := Lib.hid (onB_no (p := (p1, p2)) (.inl (by dsimp only; omega)))
    have h5 : p1 < 0 := by omega
    clear h1
    go_enter Tryd.func76, Tryd.ntmps76
    go_wp2_with fail
    go_ret
    exact ⟨ret_bool HR.out.symm, alloc_below _ _⟩
/-- The corners from i on, j steps. -/
def wlkP (l : List Pt) (i j : Nat) : List Pt := (List.range (j + 1)).map fun t => vx l ((i + t) % l.length)
theorem wlk_len (l : List Pt) (i j : Nat) : (wlkP l i j).length = j + 1 := by unfold wlkP; simp
theorem wlk_step (l : List Pt) (i j : Nat) : wlkP l i (j + 1) = wlkP l i j ++ [vx l ((i + (j + 1)) % l.length)] := by
  unfold wlkP; rw [List.range_succ, List.map_append]; simp
theorem wlk_vx {l : List Pt} {i j t : Nat} (h : t ≤ j) : vx (wlkP l i j) t = vx l ((i + t) % l.length) := by
  unfold wlkP
  rw [vx_eq (by simp; omega)]; simp
theorem wlk_run {l : List Pt} {i k j : Nat} (hi : i < l.length) (hk : k < l.length) (hj : j < l.length) (h : (i + j) % l.length = k) : wlkP l i j = runP l i k := by
  unfold runP
  by_cases hik : i ≤ k
  · rw [if_pos hik]
    have e : j = k - i := by
      rcases Nat.lt_or_ge (i + j) l.length with h2 | h2
      · rw [Nat.mod_eq_of_lt h2] at h; omega
      · rw [Nat.mod_eq_sub_mod h2, Nat.mod_eq_of_lt (by omega)] at h; omega
    have hl : ((l.take (k + 1)).drop i).length = k + 1 - i := by rw [List.length_drop, List.length_take]; omega
    refine ext_vx (by rw [wlk_len, hl]; omega) fun t ht => ?_
    rw [wlk_len] at ht
    rw [wlk_vx (by omega), vx_drop, vx_take (by omega), Nat.mod_eq_of_lt (by omega)]
  · rw [if_neg hik]
    have e : j = k + l.length - i := by
      rcases Nat.lt_or_ge (i + j) l.length with h2 | h2
      · rw [Nat.mod_eq_of_lt h2] at h; omega
      · rw [Nat.mod_eq_sub_mod h2, Nat.mod_eq_of_lt (by omega)] at h; omega
    have hl : (l.drop i ++ l.take (k + 1)).length = l.length - i + (k + 1) := by rw [List.length_append, List.length_drop, List.length_take]; omega
    refine ext_vx (by rw [wlk_len, hl]; omega) fun t ht => ?_
    rw [wlk_len] at ht
    rw [wlk_vx (by omega)]
    rcases Nat.lt_or_ge t (l.length - i) with h3 | h3
    · rw [vx_app_l (by rw [List.length_drop]; omega), vx_drop, Nat.mod_eq_of_lt (by omega)]
    · have e2 : t = (l.drop i).length + (t - (l.length - i)) := by rw [List.length_drop]; omega
      conv => rhs; rw [e2, vx_app_r]
      rw [vx_take (by omega), Nat.mod_eq_sub_mod (by omega), Nat.mod_eq_of_lt (by omega)]
      congr 1
      omega
theorem wlk_way {n i k : Nat} (hi : i < n) (hk : k < n) : ∃ d, d < n ∧ (i + d) % n = k ∧ ∀ j, j < d → (i + j) % n ≠ k := by
  by_cases h : i ≤ k
  · refine ⟨k - i, by omega, by rw [show i + (k - i) = k by omega, Nat.mod_eq_of_lt hk], fun j hj e => ?_⟩
    rw [Nat.mod_eq_of_lt (by omega)] at e; omega
  · refine ⟨k + n - i, by omega, by rw [show i + (k + n - i) = k + n by omega, Nat.add_mod_right, Nat.mod_eq_of_lt hk], fun j hj e => ?_⟩
    rcases Nat.lt_or_ge (i + j) n with h2 | h2
    · rw [Nat.mod_eq_of_lt h2] at e; omega
    · rw [Nat.mod_eq_sub_mod h2, Nat.mod_eq_of_lt (by omega)] at e; omega
set_option maxRecDepth 100000 in
set_option maxHeartbeats 2000000 in
theorem walk_w (l : List Pt) (hl : l.length ≤ 100) (i k : Nat) (hi : i < l.length) (hk : k < l.length) (v : Value) (w : World) (hv : PtsAt w v l) :
    Calls Tryd.prog 99 #[v, .int .i64 i, .int .i64 k] w fun e w' => ∃ r, e = .returned r ∧ PtsAt w' r (runP l i k) ∧ Below w.heap.size w w' := by
  have hok := hv.ok
  obtain ⟨g, o, c, rfl, _, _, hcells⟩ := at_some hv (by omega)
  obtain ⟨n, hn⟩ : ∃ n, n = l.length := ⟨_, rfl⟩
  have HNN := Lib.hid hn
  rw [← hn] at hl hi hk hcells ⊢
  have hnb : (n : Int) ≤ 100 := by omega
  have hn0 : ¬ n = 0 := by omega
  have hib : (i : Int) < n := by omega
  have hkb : (k : Int) < n := by omega
  obtain ⟨d, hd, hdk, hdn⟩ := wlk_way hi hk
  have HW := Lib.hid (wlk_run (l := l) (i := i) (k := k) (j := d) (by omega) (by omega) (by omega) (by rw [← hn]; exact hdk))
  have HDN := Lib.hid hdn
  have HDK := Lib.hid hdk
  have HOKR : Hid (PtsOk (runP l i k)) := Lib.hid (fun r hr => hok r (by
    rw [← HW.out] at hr
    unfold wlkP at hr
    obtain ⟨t, _, rfl⟩ := List.mem_map.1 hr
    exact vx_mem (Nat.mod_lt _ (by omega))))
  have HST := Lib.hid (fun j => wlk_step l i j)
  have HLN := Lib.hid (fun j => wlk_len l i j)
  have HI0 : Hid ((i + 0) % n = i) := Lib.hid (Nat.mod_eq_of_lt hi)
  have HC := Lib.hid hcells
  obtain ⟨i0, hi0, hz0, hz1, hz2⟩ := info_parts info_pt
  have HI := Lib.hid hi0
  have HZ0 := Lib.hid hz0
  have HZ1 := Lib.hid hz1
  have HZ2 := Lib.hid hz2
  obtain ⟨c0, c1⟩ := hcells i hi
  have HV0 : Hid (wlkP l i 0 = [vx l i]) := Lib.hid (by unfold wlkP; rw [← hn]; simp [Nat.mod_eq_of_lt hi])
  clear hi0 hz0 hz1 hz2 hdn hdk hn hcells hok hv
  generalize hp : vx l i = p at *
  obtain ⟨x, y⟩ := p
  dsimp only at c0 c1
  clear hp
  go_enter Tryd.func99, Tryd.ntmps99
  go_wp2_with fail
  clear c0 c1
  go_loopw [1, 7] (fun s u wr => ∃ j : Nat, j ≤ d ∧ s = .int .i64 (((i + j) % n : Nat) : Int) ∧ wr.ownsRow w.heap.size 38 2 u (j + 1) (cellsP (wlkP l i j)) ∧ Below w.heap.size w wr) (fun _ u _ => d + 1 - slN u)
  case atStart => exact ⟨0, by omega, by rw [HI0.out], by rw [HV0.out]; exact own_first w x y _ (Nat.le_refl _), alloc_below _ _⟩
  case round =>
    obtain ⟨j, hj, rfl, hown, hB⟩ := hrel
    have HO := Lib.hid hown
    have HB := Lib.hid hB
    clear hown hB
    by_cases he : j = d
    · subst he
      rw [HDK.out]
      rw [HW.out] at HO
      have hlr : (runP l i k).length = j + 1 := by rw [← HW.out, HLN.out]
      have HL := Lib.hid hlr
      clear hlr
      go_wp2_with fail
      go_ret
      exact ⟨_, rfl, owns_at (by rw [HL.out]; exact HO.out) HOKR.out, HB.out⟩
    · have hne := HDN.out j (by omega)
      have hne2 : ¬ (((i + j) % n : Nat) : Int) = k := by omega
      have hm : (i + j) % n < n := Nat.mod_lt _ (by omega)
      have hm1 : (i + (j + 1)) % n < n := Nat.mod_lt _ (by omega)
      have hrem : ((((i + j) % n : Nat) : Int) + 1).tmod n = (((i + (j + 1)) % n : Nat) : Int) := by
        rw [Int.tmod_eq_emod_of_nonneg (by omega), show i + (j + 1) = i + j + 1 by omega, ← Nat.mod_add_mod]; simp
      obtain ⟨c0, c1⟩ := HC.out _ hm1
      have c0 := keptBelow HB.out c0
      have c1 := keptBelow HB.out c1
      have HS := Lib.hid (HST.out j)
      rw [← HNN.out] at HS
      have hjn : j + 1 < 100 := by omega
      have HA := Lib.hid (app_ok (n := j + 1) (m := 1) (by omega))
      generalize hbq : (i + (j + 1)) % n = b at *
      have HBQ := Lib.hid hbq
      clear hbq
      generalize (i + j) % n = a at *
      generalize vx l b = p at *
      obtain ⟨p1, p2⟩ := p
      dsimp only at c0 c1
      have hw1 : IntKind.i64.wrap ((a : Int) + 1) = (a : Int) + 1 := IntWalk.i64_in _ (by omega)
      have HO6 := Lib.hid (own_via HO.out (alloc_below wr (.cells #[.int .i64 p1, .int .i64 p2] 38)))
      have HB6 := Lib.hid (belowStep HB.out (alloc_below wr (.cells #[.int .i64 p1, .int .i64 p2] 38)))
      have HN := Lib.hid (news_in (w := wr.alloc (.cells #[.int .i64 p1, .int .i64 p2] 38)) (g := wr.heap.size) (o := 0) (l := [(p1, p2)]) (fun j hj => by obtain rfl : j = 0 := (by simp at hj; omega); exact ⟨cell_rowN wr _ _ 0 rfl, cell_rowN wr _ _ 1 rfl⟩))
      clear hne
      go_wp2_with (at_builtin; refine wpList_append_own _ rfl _ _ 25 rfl w.heap.size 38 i0 (.agg #[.int .i64 0, .int .i64 0]) 2 16 Tryd.underlying25 HI.out HZ0.out HZ1.out HZ2.out rfl (by decide) _ (j + 1) _ rfl HO6.out ⟨wr.heap.size, 0, none⟩ 1 1 (cellsP [(p1, p2)]) rfl rfl HN.out (cellsP_one _) HA.out.1 HA.out.2 HB6.out.size ?_)
      intro v' w5 hown5 hgrow5 _
      have HB5 := Lib.hid (HB6.out.grown hgrow5 HB6.out.size (fun k hk => (own_lt HO6.out k hk).1))
      rw [← cellsP_app, ← HS.out] at hown5
      have HO5 := Lib.hid hown5
      clear hown5 hgrow5
      go_wp2_with fail
      go_roundw
      case rel => exact ⟨j + 1, by omega, by rw [HBQ.out], HO5.out, HB5.out⟩
      case measure => rw [own_slN HO5.out, own_slN HO.out]; omega
end Go.Proofs.YtcamncipkofgkaaDoor
/- PlnSep: The contract of separating. -/
namespace Go.Proofs.YtcamncipkofgkaaDoor
open Go.RowKit Go.Shelf Pln
attribute [local go_sem] Oper.semAt_some

/-- What separating returns. -/
def sepV : Option Nat → Value
  | some i => .tuple #[.int .i64 i, .bool true]
  | none => .tuple #[.int .i64 0, .bool false]
structure SepI (w : World) (v vo : Value) (x : Int) (y : Bool) (A : World) : Prop where
  other : A.cell? ⟨w.heap.size, 0, none⟩ = some vo
  num : Boxed A (w.heap.size + 1) 3 (.int .i64 x)
  flag : Boxed A (w.heap.size + 1 + 1) 4 (.bool y)
  held : A.cell? ⟨w.heap.size + 1 + 1 + 1, 0, none⟩ = some v
  below : Below w.heap.size w A
theorem SepI.held_ {w : World} {v vo : Value} {l : List Pt} {x : Int} {y : Bool} {A : World} (h : SepI w v vo x y A) (hv : PtsAt w v l) : Held (w.heap.size + 1 + 1 + 1) v l A := ⟨h.held, hv.via h.below⟩
theorem SepI.via {w w0 : World} {v vo : Value} {x : Int} {y : Bool} {A A' : World} (h : SepI w v vo x y A) (hB : Below w0.heap.size A A') (hs : w.heap.size + 1 + 1 + 1 < w0.heap.size) : SepI w v vo x y A' :=
  ⟨kept_n hB (by omega) h.other, (hB.block _ (by omega)).trans h.num, (hB.block _ (by omega)).trans h.flag, kept_n hB hs h.held, h.below.trans (below_of_le hB (by omega))⟩
theorem boxed_ne {A : World} {b b' i : Nat} {t : TypeId} {x y : Value} (h : Boxed A b t x) (hn : b ≠ b') : Boxed (A.setCell ⟨b', i, none⟩ y) b t x := (heap_setCell_other A ⟨b', i, none⟩ b y (by simpa using hn)).trans h
theorem SepI.set {w : World} {v vo : Value} {x : Int} {y : Bool} {A : World} (h : SepI w v vo x y A) (x' : Int) (y' : Bool) : SepI w v vo x' y' ((A.setCell ⟨w.heap.size + 1, 0, none⟩ (.int .i64 x')).setCell ⟨w.heap.size + 1 + 1, 0, none⟩ (.bool y')) :=
  ⟨(cell_set_ne (by omega)).trans ((cell_set_ne (by omega)).trans h.other), boxed_ne (h.num.set _) (by omega), (boxed_ne h.flag (by omega)).set _, (cell_set_ne (by omega)).trans ((cell_set_ne (by omega)).trans h.held),
    (h.below.setCell (p := ⟨w.heap.size + 1, 0, none⟩) (by simp) _).setCell (p := ⟨w.heap.size + 1 + 1, 0, none⟩) (by simp; omega) _⟩
theorem sep_is {l o : List Pt} {k : Nat} (hk : k < l.length) (h : sepB l o k = true) (hf : ∀ j, j < k → sepB l o j = false) : sep l o = some k := by
  rcases e : sep l o with _ | i
  · have := sep_none e k hk; rw [h] at this; exact Bool.noConfusion this
  · obtain ⟨_, h2, h3⟩ := sep_some e
    rcases Nat.lt_trichotomy i k with h4 | h4 | h4
    · rw [hf i h4] at h2; exact Bool.noConfusion h2
    · rw [h4]
    · rw [h3 k h4] at h; exact Bool.noConfusion h

/-- The end: the deferred calls, of which there are none, and the two results. -/
theorem sep_end {w w0 W : World} {D : Nat} {v vo : Value} {x : Int} {y : Bool} {s : Option Nat} {tm : Array Value} (hD : w0.heap.size ≤ D) (hsz : w0.heap.size = w.heap.size + 1 + 1 + 1 + 1) (hI : SepI w v vo x y W) (hK : W.heap[D]? = some (.deferred (some []))) (hs : sepV s = .tuple #[.int .i64 x, .bool y])
    (h4 : tm[4]?.getD undef = .pointer (some ⟨w.heap.size + 1, 0, none⟩) := by rfl) (h5 : tm[5]?.getD undef = .pointer (some ⟨w.heap.size + 1 + 1, 0, none⟩) := by rfl) :
    bodyPostM Fence.wide 5 Tryd.prog Tryd.f102 (fun e w' => e = .returned (sepV s) ∧ Below w.heap.size w w') .ret { tmps := tm, defers := [{ target := .collected D, args := #[] }] } W := by
  have hDl : D < W.heap.size := (Array.getElem?_eq_some_iff.1 hK).1
  refine ⟨by simp, .inl ⟨_, _, rfl, run_takeDeferred hK, ?_⟩⟩
  have c1 : (W.putObj D (.deferred none)).cell? ⟨w.heap.size + 1, 0, none⟩ = some (.int .i64 x) := (World.cell?_of_block (World.putObj_heap_other (by simp; omega))).trans hI.num.cell
  have c2 : (W.putObj D (.deferred none)).cell? ⟨w.heap.size + 1 + 1, 0, none⟩ = some (.bool y) := (World.cell?_of_block (World.putObj_heap_other (by simp; omega))).trans hI.flag.cell
  refine ⟨.tuple #[.int .i64 x, .bool y], ?_, by rw [hs], hI.below.trans (belowK_b (w := w) (Nat.le_refl _) W D _ _ (by omega) hK rfl rfl)⟩
  simp [results, Tryd.results102, go_sem, h4, h5, c1, c2]
set_option maxRecDepth 100000 in
set_option maxHeartbeats 4000000 in
theorem separating_in (l o : List Pt) (v vo : Value) (w : World) (hv : PtsAt w v l) (hvo : PtsAt w vo o) (hl : l.length ≤ 100) (hol : o.length ≤ 100) (hs : Smls l) (hos : Smls o) :
    CallsIn Fence.wide 5 Tryd.prog 102 #[v, vo] w fun e w' => e = .returned (sepV (sep l o)) ∧ Below w.heap.size w w' := by
  have HV := Lib.hid hv
  have HVO := Lib.hid hvo
  obtain ⟨⟨a, c, rfl, _, _, _⟩, _⟩ := hv
  obtain ⟨⟨ao, co, rfl, _, _, _⟩, _⟩ := hvo
  obtain ⟨mo, hmo⟩ : ∃ mo, mo = o.length := ⟨_, rfl⟩
  have HMO := Lib.hid hmo
  have hol0 := hol
  rw [← hmo] at HVO ⊢
  clear hmo
  obtain ⟨m, hm⟩ : ∃ m, m = l.length := ⟨_, rfl⟩
  have HM := Lib.hid hm
  have hl0 := hl
  rw [← hm] at HV ⊢
  clear hm
  refine callsIn_of_wp_marks Tryd.func102 rfl trivial ?_ rfl
  simp only [Tryd.ntmps102, List.size_toArray, List.length_cons, List.length_nil, Nat.reduceAdd, Nat.reduceSub, Array.replicate_succ, Array.replicate_zero, List.push_toArray, List.append_toArray, List.nil_append, List.cons_append]
  gi_wp2_with fail
  refine ⟨trivial, ?_⟩
  refine (callsIn_wide.2 (edges_w _ _ _ _)).mono ?_
  rintro e w1 ⟨rfl, rfl⟩
  gi_wp2_with fail
  obtain ⟨w0, hw0⟩ : ∃ w0 : World, w0 = (((w.alloc (.cells #[.slice ao mo co] 25)).alloc (.cells #[.int .i64 0] 3)).alloc (.cells #[.bool false] 4)).alloc (.cells #[.slice a m c] 25) := ⟨_, rfl⟩
  have hsz : w0.heap.size = w.heap.size + 1 + 1 + 1 + 1 := by rw [hw0, World.size_alloc, World.size_alloc, World.size_alloc, World.size_alloc]
  have hB0 : Below w.heap.size w w0 := by rw [hw0]; exact ((((Below.refl _ w).alloc (Nat.le_refl _) _).alloc (by simp) _).alloc (by simp; omega) _).alloc (by simp; omega) _
  have hI0 : SepI w (.slice a m c) (.slice ao mo co) 0 false w0 := by
    rw [hw0]
    have e1 : (w.alloc (.cells #[.slice ao mo co] 25)).heap.size = w.heap.size + 1 := World.size_alloc _ _
    have e2 : ((w.alloc (.cells #[.slice ao mo co] 25)).alloc (.cells #[.int .i64 0] 3)).heap.size = w.heap.size + 1 + 1 := by rw [World.size_alloc, e1]
    have e3 : (((w.alloc (.cells #[.slice ao mo co] 25)).alloc (.cells #[.int .i64 0] 3)).alloc (.cells #[.bool false] 4)).heap.size = w.heap.size + 1 + 1 + 1 := by rw [World.size_alloc, e2]
    refine ⟨cellA _ (cellA _ (cellA _ (cell_rowN w _ _ 0 rfl))), ?_, ?_, ?_, by rw [← hw0]; exact hB0⟩
    · rw [← e1]; exact ((Boxed.new _ _ _).alloc _).alloc _
    · rw [← e2]; exact (Boxed.new _ _ _).alloc _
    · rw [← e3]; exact cell_rowN _ _ _ 0 rfl
  rw [← hw0]
  have HI0 := Lib.hid hI0
  clear hw0 hI0 hB0
  refine wpIn_rangeFunc_yields rfl (by omega) (gf := 100) (lb := #[.pointer (some ⟨w.heap.size + 1 + 1 + 1, 0, none⟩)]) rfl trivial (enters_of Tryd.func100 (by kernel_rfl) rfl)
    (edges1_yields 4 (w.heap.size + 1 + 1 + 1) (.slice a m c) l hl0) (fun _ => rfl)
    (fun k A => SepI w (.slice a m c) (.slice ao mo co) 0 false A ∧ ∀ j, j < k → sepB l o j = false) (fun c' k A => c' = .ret ∧ SepI w (.slice a m c) (.slice ao mo co) k true A ∧ sepB l o k = true ∧ ∀ j, j < k → sepB l o j = false)
    (fun k A A' h hB => ⟨h.1.via hB (by omega), h.2⟩) (fun _ _ A A' h hB => ⟨h.1, h.2.1.via hB (by omega), h.2.2⟩) (fun k A h => h.1.held_ HV.out) ⟨HI0.out, fun j hj => by omega⟩
    (fun k a' A => ∃ Be, Be ≠ w0.heap.size + 1 ∧ w.heap.size + 1 + 1 + 1 < Be ∧ A.heap[Be]? = some (.cells #[.int .i64 (vx l k).1, .int .i64 (vx l k).2, .int .i64 (nx l k).1, .int .i64 (nx l k).2] 113 (0, 0)) ∧ a' = { tmps := #[.slice a m c, .slice ao mo co, undef, .pointer (some ⟨w.heap.size, 0, none⟩), .pointer (some ⟨w.heap.size + 1, 0, none⟩), .pointer (some ⟨w.heap.size + 1 + 1, 0, none⟩), .int .i64 k, .pointer (some ⟨Be, 0, none⟩), .slice a m c, .func (.func 100) #[] #[.pointer (some ⟨w.heap.size + 1 + 1 + 1, 0, none⟩)], .int .i64 k, ev (vx l k) (nx l k), undef, undef, undef, undef, undef, undef], defers := [] })
    (fun k a' A A' ⟨Be, h1, h2, h3, h4⟩ hk => ⟨Be, h1, h2, (hk Be h1).trans h3, h4⟩) ?assign ?body ?done ?stop
  case assign =>
    rintro L k W hk hlt hI
    have HI := Lib.hid hI
    clear hI
    have HE : Hid (encE l k = #[.int .i64 k, ev (vx l k) (nx l k)]) := Lib.hid rfl
    rw [HE.out]
    unfold ev
    gi_wp2
    have hb2 : Below W.heap.size W (W.alloc (.cells #[.int .i64 (vx l k).1, .int .i64 (vx l k).2, .int .i64 (nx l k).1, .int .i64 (nx l k).2] 113)) := alloc_below _ _
    exact ⟨Above.of_below hb2, ⟨HI.out.1.via (w0 := w0) (below_of_le hb2 (by omega)) (by omega), HI.out.2⟩, W.heap.size, by omega, by omega, heap_alloc_new _ _, rfl⟩
  case body =>
    rintro L k a' W hk hlt hI ⟨Be, hne, hlt2, hE, rfl⟩
    have hE2 := EdgeIn.of_heap hE
    have hF := fun w => leftOf_w (vx l k) (nx l k) w
    have hX := any_left o (vx l k) (nx l k)
    have hXB : (o.any fun c => decide (0 < turn (vx l k) (nx l k) c)) = !sepB l o k := by
      unfold sepB
      rw [Bool.eq_iff_iff]
      simp
    rw [hXB] at hX
    have hL := fun (B : Nat) (j : Nat) (hj : j < o.length) (w : World) (h : EdgeIn w B (vx l k) (nx l k)) => left1_w (vx l k) (nx l k) (vx o j) B (hs k hk) (hs _ (mod_lt' hk)) (hos j hj) w h
    have k0 : W.drew.cell? ⟨w.heap.size, 0, none⟩ = some (.slice ao mo co) := hI.1.other
    have hvo : PtsAt W.drew (.slice ao mo co) o := HVO.out.via hI.1.below.drew
    have e0 : W.drew.cell? ⟨Be, 0, none⟩ = some (.int .i64 (vx l k).1) := hE2.c0
    have e1 : W.drew.cell? ⟨Be, 1, none⟩ = some (.int .i64 (vx l k).2) := hE2.c1
    have e2 : W.drew.cell? ⟨Be, 2, none⟩ = some (.int .i64 (nx l k).1) := hE2.c2
    have e3 : W.drew.cell? ⟨Be, 3, none⟩ = some (.int .i64 (nx l k).2) := hE2.c3
    have HF := Lib.hid hF
    have HX := Lib.hid hX
    have HL := Lib.hid hL
    have HI := Lib.hid hI
    have HP := Lib.hid hvo
    clear hF hX hXB hL hI hvo hE2 hE HI0
    unfold ev at HF ⊢
    gi_wp2
    have hB : Below W.heap.size W W.drew := (Below.refl _ _).drew
    refine wpIn_region_T (fun w' => Below W.drew.heap.size W.drew w') 4 (by kernel_rfl) ?_
    generalize W.drew = wd at *
    refine wpT_tk 0 12 (v := ?_) (Below.refl _ _) rfl rfl (by rfl) (hy := fun w hw => ?_) (h := ?_)
    rotate_left
    · have k0 := keptBelow hw k0; go_simp; with_reducible rfl
    try simp only [Act.put, List.setIfInBounds_toArray, List.set_cons_zero, List.set_cons_succ]
    refine wpT_tk 1 13 (v := ?_) (Below.refl _ _) rfl rfl (by rfl) (hy := fun w hw => ?_) (h := ?_)
    rotate_left
    · have e0 := keptBelow hw e0; have e1 := keptBelow hw e1; have e2 := keptBelow hw e2; have e3 := keptBelow hw e3; go_simp; with_reducible rfl
    try simp only [Act.put, List.setIfInBounds_toArray, List.set_cons_zero, List.set_cons_succ]
    refine wpT_one 2 rfl rfl (by kernel_rfl) ?_
    go_simp
    refine ⟨trivial, ?_⟩
    refine ((callsIn_wide.2 (HF.out _)).inRound L).mono ?_
    rintro e w3 ⟨rfl, h3⟩
    have hE3 : EdgeIn w3 wd.heap.size (vx l k) (nx l k) := by rw [h3]; exact EdgeIn.new _ _ _
    have hB3 : Below wd.heap.size wd w3 := by rw [h3]; exact alloc_below _ _
    have hc := contains_w o (by omega) (fun j => decide (0 < turn (vx l k) (nx l k) (vx o j))) 101 #[.pointer (some ⟨wd.heap.size, 0, none⟩)] (enters_of Tryd.func101 (by kernel_rfl) rfl) (.slice ao mo co) w3 (HP.out.via hB3)
      (fun j hj w4 hB4 => HL.out wd.heap.size j hj w4 (hE3.via hB4))
    rw [HX.out] at hc
    have HC := Lib.hid hc
    clear hc h3 hE3 k0 e0 e1 e2 e3
    refine ⟨hB3, ?_⟩
    refine wpT_one 3 rfl rfl (by kernel_rfl) ?_
    go_simp
    refine ⟨trivial, ?_⟩
    refine ((callsIn_wide.2 HC.out).inRound L).mono ?_
    rintro e w5 ⟨rfl, hB5⟩
    have hB := belowVia hB5 (belowVia hB3 hB)
    have hB' := belowVia hB5 hB3
    have hI3 := HI.out.1.via (w0 := W) hB (by omega)
    have HI3 := Lib.hid hI3
    have c1 := hI3.num.frozen
    have c2 := hI3.flag.frozen
    have c1' := hI3.num.cell
    have c2' := hI3.flag.cell
    have HA := Lib.hid (Above.of_below (B := w0.heap.size) hB)
    clear hB3 hB5 hI3 hB HC HX
    refine ⟨hB', ?_⟩
    clear hB'
    refine wpT_one 4 rfl rfl (by kernel_rfl) ?_
    rcases hsb : sepB l o k with _ | _
    · have HSB := Lib.hid hsb
      clear hsb c1 c2 c1' c2'
      go_simp
      refine wpT_done (by kernel_rfl) ?_ _
      gi_wp2
      exact ⟨HA.out, HI3.out, fun j hj => by
        by_cases e : j = k
        · rw [e]; exact HSB.out
        · exact HI.out.2 j (by omega)⟩
    · have HSB := Lib.hid hsb
      clear hsb
      go_simp
      refine wpT_done (by kernel_rfl) ?_ _
      gi_wp2
      exact ⟨(HA.out.trans (Above.setCell _ _ _ _ (by omega))).trans (Above.setCell _ _ _ _ (by omega)), rfl, HI3.out.set _ _, HSB.out, HI.out.2⟩
  case done =>
    rintro D W hD ⟨hI, hF⟩ hK
    have hn : sep l o = none := sep_none_iff.2 hF
    have HN := Lib.hid hn
    have hB := hI.below
    have hDl : D < W.heap.size := (Array.getElem?_eq_some_iff.1 hK).1
    have HK := Lib.hid hK
    have HI := Lib.hid hI
    have c1 := hI.num.frozen
    have c2 := hI.flag.frozen
    have c1' := hI.num.cell
    have c2' := hI.flag.cell
    clear hI hK hn hF HI0
    gi_wp2
    have hI5 := HI.out.set 0 false
    have hK5 : ((W.setCell ⟨w.heap.size + 1, 0, none⟩ (.int .i64 0)).setCell ⟨w.heap.size + 1 + 1, 0, none⟩ (.bool false)).heap[D]? = some (.deferred (some [])) := (heap_setCell_other _ _ _ _ (by simp; omega)).trans ((heap_setCell_other _ _ _ _ (by simp; omega)).trans HK.out)
    generalize (W.setCell ⟨w.heap.size + 1, 0, none⟩ (.int .i64 0)).setCell ⟨w.heap.size + 1 + 1, 0, none⟩ (.bool false) = W5 at *
    exact sep_end hD hsz hI5 hK5 (by rw [HN.out]; rfl)
  case stop =>
    rintro D c' k W hD hk ⟨rfl, hI, hb, hF⟩ hK
    have hn : sep l o = some k := sep_is hk hb hF
    have HN := Lib.hid hn
    have hB := hI.below
    have hDl : D < W.heap.size := (Array.getElem?_eq_some_iff.1 hK).1
    have HK := Lib.hid hK
    have HI := Lib.hid hI
    have c1' := hI.num.cell
    have c2' := hI.flag.cell
    clear hI hK hn hF HI0
    gi_wp2
    exact sep_end hD hsz HI.out HK.out (by rw [HN.out]; rfl)
theorem separating_w (l o : List Pt) (v vo : Value) (w : World) (hv : PtsAt w v l) (hvo : PtsAt w vo o) (hl : l.length ≤ 100) (hol : o.length ≤ 100) (hs : Smls l) (hos : Smls o) :
    Calls Tryd.prog 102 #[v, vo] w fun e w' => e = .returned (sepV (sep l o)) ∧ Below w.heap.size w w' :=
  callsIn_wide.1 (separating_in l o v vo w hv hvo hl hol hs hos)
end Go.Proofs.YtcamncipkofgkaaDoor
/- PlnValid: The contract of Valid. -/
namespace Go.Proofs.YtcamncipkofgkaaDoor
open Go.RowKit Go.Shelf Pln
attribute [local go_sem] Oper.semAt_some

structure ValI (w : World) (B2 : Nat) (v : Value) (y : Bool) (A : World) : Prop where
  own : A.cell? ⟨w.heap.size, 0, none⟩ = some v
  flag : Boxed A (w.heap.size + 1) 4 (.bool y)
  held : A.cell? ⟨B2, 0, none⟩ = some v
  below : Below w.heap.size w A
theorem ValI.held_ {w : World} {B2 : Nat} {v : Value} {l : List Pt} {y : Bool} {A : World} (h : ValI w B2 v y A) (hv : PtsAt w v l) : Held B2 v l A := ⟨h.held, hv.via h.below⟩
theorem ValI.via {w : World} {n B2 : Nat} {v : Value} {y : Bool} {A A' : World} (h : ValI w B2 v y A) (hB : Below n A A') (hs : w.heap.size + 1 < n) (h2 : B2 < n) : ValI w B2 v y A' :=
  ⟨kept_n hB (by omega) h.own, (hB.block _ (by omega)).trans h.flag, kept_n hB h2 h.held, h.below.trans (below_of_le hB (by omega))⟩
theorem ValI.set {w : World} {B2 : Nat} {v : Value} {y : Bool} {A : World} (h : ValI w B2 v y A) (h2 : w.heap.size + 1 < B2) (y' : Bool) : ValI w B2 v y' (A.setCell ⟨w.heap.size + 1, 0, none⟩ (.bool y')) :=
  ⟨(cell_set_ne (by omega)).trans h.own, h.flag.set _, (cell_set_ne (by omega)).trans h.held, h.below.setCell (p := ⟨w.heap.size + 1, 0, none⟩) (by simp) _⟩

theorem cell_second (w : World) (x : Obj) (b : Value) (t : TypeId) : ((w.alloc x).alloc (.cells #[b] t)).cell? ⟨w.heap.size + 1, 0, none⟩ = some b := by
  have := cell_rowN (w.alloc x) #[b] t 0 rfl
  rwa [World.size_alloc] at this
theorem val_end0 {w W : World} {y : Bool} {tm : Array Value} (hf : W.cell? ⟨w.heap.size + 1, 0, none⟩ = some (.bool y)) (hB : Below w.heap.size w W) {r : Bool} (hr : r = y)
    (h2 : tm[2]?.getD undef = .pointer (some ⟨w.heap.size + 1, 0, none⟩) := by rfl) :
    bodyPostM Fence.wide 5 Tryd.prog Tryd.f48 (fun e w' => e = .returned (.bool r) ∧ Below w.heap.size w w') .ret { tmps := tm, defers := [] } W := by
  refine ⟨.bool y, ?_, by rw [hr], hB⟩
  simp [results, Tryd.results48, go_sem, h2, hf]
theorem val_end {w W : World} {D : Nat} {y : Bool} {tm : Array Value} (hD : w.heap.size + 1 < D) (hf : W.cell? ⟨w.heap.size + 1, 0, none⟩ = some (.bool y)) (hB : Below w.heap.size w W) (hK : W.heap[D]? = some (.deferred (some []))) {r : Bool} (hr : r = y)
    (h2 : tm[2]?.getD undef = .pointer (some ⟨w.heap.size + 1, 0, none⟩) := by rfl) :
    bodyPostM Fence.wide 5 Tryd.prog Tryd.f48 (fun e w' => e = .returned (.bool r) ∧ Below w.heap.size w w') .ret { tmps := tm, defers := [{ target := .collected D, args := #[] }] } W := by
  have hDl : D < W.heap.size := (Array.getElem?_eq_some_iff.1 hK).1
  refine ⟨by simp, .inl ⟨_, _, rfl, run_takeDeferred hK, ?_⟩⟩
  have c1 : (W.putObj D (.deferred none)).cell? ⟨w.heap.size + 1, 0, none⟩ = some (.bool y) := (World.cell?_of_block (World.putObj_heap_other (by simp; omega))).trans hf
  refine ⟨.bool y, ?_, by rw [hr], hB.trans (belowK_b (w := w) (Nat.le_refl _) W D _ _ (by omega) hK rfl rfl)⟩
  simp [results, Tryd.results48, go_sem, h2, c1]
set_option maxRecDepth 100000 in
set_option maxHeartbeats 4000000 in
theorem valid_in (l : List Pt) (hl : (l.length : Int) ≤ 4611686018427387904) (v : Value) (w : World) (hv : PtsAt w v l) :
    CallsIn Fence.wide 5 Tryd.prog 48 #[v] w fun e w' => e = .returned (.bool (valB l)) ∧ Below w.heap.size w w' := by
  have hM := fun w1 (hB : Below w.heap.size w w1) => onMap_w l hl v w1 (hv.via hB)
  have HV := Lib.hid hv
  obtain ⟨⟨a, c, rfl, _, _, _⟩, _⟩ := hv
  have hv1 : valB l = (decide (3 ≤ l.length) && decide (l.length ≤ 8) && onsB l l.length && rowsB l l.length) := rfl
  obtain ⟨m, hm⟩ : ∃ m, m = l.length := ⟨_, rfl⟩
  have HM := Lib.hid hm
  have hmb : (m : Int) ≤ 4611686018427387904 := by omega
  rw [← hm] at HV hM hv1 ⊢
  have HMP := Lib.hid hM
  have HV1 := Lib.hid hv1
  clear hm hl hM hv1
  refine callsIn_of_wp_marks Tryd.func48 rfl trivial ?_ rfl
  simp only [Tryd.ntmps48, List.size_toArray, List.length_cons, List.length_nil, Nat.reduceAdd, Nat.reduceSub, Array.replicate_succ, Array.replicate_zero, List.push_toArray, List.append_toArray, List.nil_append, List.cons_append]
  have hBA : ∀ x y, Below w.heap.size w ((w.alloc x).alloc y) := fun x y => ((Below.refl _ w).alloc (Nat.le_refl _) _).alloc (by simp) _
  have HBA := Lib.hid hBA
  clear hBA
  by_cases h3 : (m : Int) < 3
  · have HR : Hid (valB l = false) := by rw [HV1.out, decide_eq_false (by omega : ¬ 3 ≤ m)]; exact Lib.hid rfl
    gi_wp2
    refine ⟨trivial, ?_⟩
    gi_wp2
    exact val_end0 (cell_second _ _ _ _) (HBA.out _ _) HR.out
  · have h3' : 3 ≤ (m : Int) := by omega
    clear h3
    by_cases h8 : 8 < (m : Int)
    · have HR : Hid (valB l = false) := by rw [HV1.out, decide_eq_false (by omega : ¬ m ≤ 8), Bool.and_false]; exact Lib.hid rfl
      gi_wp2
      refine ⟨trivial, ?_⟩
      gi_wp2
      exact val_end0 (cell_second _ _ _ _) (HBA.out _ _) HR.out
    · have h8' : (m : Int) ≤ 8 := by omega
      clear h8
      have d1 : decide ((m : Int) < 3) = false := decide_eq_false (by omega)
      have d2 : decide (8 < (m : Int)) = false := decide_eq_false (by omega)
      gi_wp2_with fail
      refine ⟨trivial, ?_⟩
      refine (callsIn_wide.2 (HMP.out _ (HBA.out _ _))).mono ?_
      rintro e w1 ⟨rfl, hB1⟩
      have k0 : w1.cell? ⟨w.heap.size, 0, none⟩ = some (.slice a m c) := keptBelow hB1 (cellA _ (cell_rowN w _ _ 0 rfl))
      have k1 : Boxed w1 (w.heap.size + 1) 4 (.bool false) := by
        have := Boxed.new (w.alloc (.cells #[.slice a m c] 25)) 4 (.bool false)
        rw [World.size_alloc] at this
        exact heap_below hB1 this
      have hB := belowVia hB1 (HBA.out (.cells #[.slice a m c] 25) (.cells #[.bool false] 4))
      have hlt : w.heap.size + 1 < w1.heap.size := (Array.getElem?_eq_some_iff.1 k1).1
      clear hB1
      rcases hon : onsB l m with _ | _
      · have HR : Hid (valB l = false) := by rw [HV1.out, hon, Bool.and_false]; exact Lib.hid rfl
        have k2 := k1.frozen
        have k3 := k1.cell
        clear hon
        gi_wp2
        exact val_end0 (k1.set _).cell (hB.setCell (p := ⟨w.heap.size + 1, 0, none⟩) (by simp) _) HR.out
      · have HON := Lib.hid hon
        clear hon
        gi_wp2_with fail
        refine ⟨trivial, ?_⟩
        refine (callsIn_wide.2 (edges_w _ _ _ _)).mono ?_
        rintro e w2 ⟨rfl, rfl⟩
        gi_wp2_with fail
        have hs : Smls l := fun i hi => on_sml ((onsB_iff l m).1 HON.out i (by rw [HM.out]; exact hi))
        obtain ⟨w0, hw0⟩ : ∃ w0 : World, w0 = w1.alloc (.cells #[.slice a m c] 25) := ⟨_, rfl⟩
        have hsz : w0.heap.size = w1.heap.size + 1 := by rw [hw0, World.size_alloc]
        have hI0 : ValI w w1.heap.size (.slice a m c) false w0 := by
          rw [hw0]
          exact ⟨cellA _ k0, k1.alloc _, cell_rowN _ _ _ 0 rfl, hB.alloc (by omega) _⟩
        rw [← hw0]
        have HI0 := Lib.hid hI0
        obtain ⟨B2, hB2⟩ : ∃ B2, B2 = w1.heap.size := ⟨_, rfl⟩
        rw [← hB2] at HI0 hsz hlt ⊢
        clear hw0 hI0 hB k0 k1 hB2 HMP HBA
        clear w1
        refine wpIn_rangeFunc_yields rfl (by omega) (gf := 100) (lb := #[.pointer (some ⟨B2, 0, none⟩)]) rfl trivial (enters_of Tryd.func100 (by kernel_rfl) rfl)
          (edges1_yields 4 B2 (.slice a m c) l (by have := HM.out; omega)) (fun _ => rfl)
          (fun k A => ValI w B2 (.slice a m c) false A ∧ rowsB l k = true) (fun c' k A => c' = .ret ∧ ValI w B2 (.slice a m c) false A ∧ rowB l k m = false)
          (fun k A A' h hB => ⟨h.1.via hB (by omega) (by omega), h.2⟩) (fun _ _ A A' h hB => ⟨h.1, h.2.1.via hB (by omega) (by omega), h.2.2⟩) (fun k A h => h.1.held_ HV.out) ⟨HI0.out, rfl⟩
          (fun k a' A => ∃ Be, Be ≠ w0.heap.size + 1 ∧ B2 < Be ∧ A.heap[Be]? = some (.cells #[.int .i64 (vx l k).1, .int .i64 (vx l k).2, .int .i64 (nx l k).1, .int .i64 (nx l k).2] 113 (0, 0)) ∧ a' = { tmps := #[.slice a m c, .pointer (some ⟨w.heap.size, 0, none⟩), .pointer (some ⟨w.heap.size + 1, 0, none⟩), .int .i64 k, .pointer (some ⟨Be, 0, none⟩), undef, undef, undef, undef, .slice a m c, .int .i64 m, .bool false, .bool false, .slice a m c, .int .i64 m, .bool false, .bool false, .bool false, .slice a m c, .bool true, .bool false, .bool false, .slice a m c, .func (.func 100) #[] #[.pointer (some ⟨B2, 0, none⟩)], .int .i64 k, ev (vx l k) (nx l k), undef, undef, undef, undef, undef, undef, undef, undef, undef, undef, undef, undef, undef, undef, undef, undef, undef, undef, undef, undef, undef, undef, undef, undef, undef, undef, undef, undef, undef], defers := [] })
          (fun k a' A A' ⟨Be, h1, h2, h3, h4⟩ hk => ⟨Be, h1, h2, (hk Be h1).trans h3, h4⟩) ?assign ?body ?done ?stop
        case assign =>
          rintro L k W hk hlt2 hI
          have HI := Lib.hid hI
          clear hI
          have HE : Hid (encE l k = #[.int .i64 k, ev (vx l k) (nx l k)]) := Lib.hid rfl
          rw [HE.out]
          unfold ev
          gi_wp2
          have hb2 : Below W.heap.size W (W.alloc (.cells #[.int .i64 (vx l k).1, .int .i64 (vx l k).2, .int .i64 (nx l k).1, .int .i64 (nx l k).2] 113)) := alloc_below _ _
          exact ⟨Above.of_below hb2, ⟨HI.out.1.via hb2 (by omega) (by omega), HI.out.2⟩, W.heap.size, by omega, by omega, heap_alloc_new _ _, rfl⟩
        case body =>
          rintro L k a' W hk hlt2 hI ⟨Be, hne, hlt3, hE, rfl⟩
          have hE2 := EdgeIn.of_heap hE
          have hF := fun w => leftOf_w (vx l k) (nx l k) w
          have hjl := mod_lt' hk
          have hL := fun (B : Nat) (q : Nat) (hq : q < l.length) (w : World) (h : EdgeIn w B (vx l k) (nx l k)) => left1_w (vx l k) (nx l k) (vx l q) B (hs k hk) (hs _ hjl) (hs q hq) w h
          have HJ2 : Hid (((k : Int) + 1) % m = (((k + 1) % l.length : Nat) : Int)) := by rw [HM.out]; push_cast; exact Lib.hid rfl
          have HRB : Hid (∀ q, rowB l k (q + 1) = (rowB l k q && (q == k || q == (k + 1) % l.length || decide (0 < turn (vx l k) (nx l k) (vx l q))))) := Lib.hid (fun q => by unfold rowB; rw [List.range_succ, List.all_append]; simp)
          have HPS : Hid (∀ q, q < m → rowB l k (q + 1) = false → rowB l k m = false) := Lib.hid (fun q hq h => by
            rcases e : rowB l k m with _ | _
            · rfl
            · have h1 := (rowB_iff l k m).1 e
              rw [(rowB_iff l k (q + 1)).2 fun j hj => h1 j (by omega)] at h; exact Bool.noConfusion h)
          have HRS : Hid (rowB l k m = true → rowsB l (k + 1) = true) := Lib.hid (fun h => by
            rw [rowsB_iff]
            intro i hi
            by_cases e : i = k
            · rw [e, ← HM.out]; exact h
            · exact (rowsB_iff l k).1 hI.2 i (by omega))
          have hjm : (k + 1) % l.length < m := by rw [HM.out]; exact hjl
          obtain ⟨j, hj⟩ : ∃ j, j = (k + 1) % l.length := ⟨_, rfl⟩
          rw [← hj] at HJ2 HRB hjm
          have hkm : k < m := by rw [HM.out]; exact hk
          have k0 : W.drew.cell? ⟨w.heap.size, 0, none⟩ = some (.slice a m c) := hI.1.own
          have e0 : W.drew.cell? ⟨Be, 0, none⟩ = some (.int .i64 (vx l k).1) := hE2.c0
          have e1 : W.drew.cell? ⟨Be, 1, none⟩ = some (.int .i64 (vx l k).2) := hE2.c1
          have e2 : W.drew.cell? ⟨Be, 2, none⟩ = some (.int .i64 (nx l k).1) := hE2.c2
          have e3 : W.drew.cell? ⟨Be, 3, none⟩ = some (.int .i64 (nx l k).2) := hE2.c3
          have HF := Lib.hid hF
          have HL := Lib.hid hL
          have HI := Lib.hid hI
          have HK := Lib.hid hk
          clear hF hjl hL hI hE2 hE HI0 hj hk
          have hk1 : IntKind.i64.wrap ((k : Int) + 1) = (k : Int) + 1 := IntWalk.i64_in _ (by omega)
          have hmo : ((k : Int) + 1).tmod m = j := by rw [Int.tmod_eq_emod_of_nonneg (by omega)]; exact HJ2.out
          have hm0 : ¬ m = 0 := by omega
          unfold ev at HF ⊢
          gi_wp2
          have hB : Below W.heap.size W W.drew := (Below.refl _ _).drew
          refine wpIn_region_T (fun w' => Below W.drew.heap.size W.drew w') 8 (by kernel_rfl) ?_
          generalize W.drew = wd at *
          refine wpT_tk 0 26 (v := ?_) (Below.refl _ _) rfl rfl (by rfl) (hy := fun w hw => ?_) (h := ?_)
          rotate_left
          · have e0 := keptBelow hw e0; have e1 := keptBelow hw e1; have e2 := keptBelow hw e2; have e3 := keptBelow hw e3; go_simp; with_reducible rfl
          try simp only [Act.put, List.setIfInBounds_toArray, List.set_cons_zero, List.set_cons_succ]
          refine wpT_tk 2 28 (v := ?_) (Below.refl _ _) rfl rfl (by rfl) (hy := fun w hw => ?_) (h := ?_)
          rotate_left
          · go_simp; with_reducible rfl
          try simp only [Act.put, List.setIfInBounds_toArray, List.set_cons_zero, List.set_cons_succ]
          refine wpT_tk 3 29 (v := ?_) (Below.refl _ _) rfl rfl (by rfl) (hy := fun w hw => ?_) (h := ?_)
          rotate_left
          · go_simp; with_reducible rfl
          try simp only [Act.put, List.setIfInBounds_toArray, List.set_cons_zero, List.set_cons_succ]
          refine wpT_tk 4 30 (v := ?_) (Below.refl _ _) rfl rfl (by rfl) (hy := fun w hw => ?_) (h := ?_)
          rotate_left
          · have k0 := keptBelow hw k0; go_simp; with_reducible rfl
          try simp only [Act.put, List.setIfInBounds_toArray, List.set_cons_zero, List.set_cons_succ]
          refine wpT_tk 5 31 (v := ?_) (Below.refl _ _) rfl rfl (by rfl) (hy := fun w hw => ?_) (h := ?_)
          rotate_left
          · go_simp; with_reducible rfl
          try simp only [Act.put, List.setIfInBounds_toArray, List.set_cons_zero, List.set_cons_succ]
          refine wpT_tk 6 32 (v := ?_) (Below.refl _ _) rfl rfl (by rfl) (hy := fun w hw => ?_) (h := ?_)
          rotate_left
          · go_simp; with_reducible rfl
          try simp only [Act.put, List.setIfInBounds_toArray, List.set_cons_zero, List.set_cons_succ]
          refine wpT_one 1 rfl rfl (by kernel_rfl) ?_
          go_simp
          refine ⟨trivial, ?_⟩
          refine ((callsIn_wide.2 (HF.out _)).inRound L).mono ?_
          rintro e w3 ⟨rfl, h3⟩
          have hE3 : EdgeIn w3 wd.heap.size (vx l k) (nx l k) := by rw [h3]; exact EdgeIn.new _ _ _
          have hB3 : Below wd.heap.size wd w3 := by rw [h3]; exact alloc_below _ _
          refine ⟨hB3, ?_⟩
          clear h3 e0 e1 e2 e3 hk1 hmo hm0 k0
          refine wpT_tk 7 5 (v := ?_) hB3 rfl rfl (by rfl) (hy := fun w hw => ?_) (h := ?_)
          rotate_left
          · go_simp; with_reducible rfl
          try simp only [Act.put, List.setIfInBounds_toArray, List.set_cons_zero, List.set_cons_succ]
          refine wpT_one 8 rfl rfl (by kernel_rfl) ?_
          go_simp
          refine wpT_done (by kernel_rfl) ?_ _
          have hBW := belowVia hB3 hB
          have hI3 := HI.out.1.via hBW (by omega) (by omega)
          have k0 := hI3.own
          have HE3 := Lib.hid hE3
          have HI3 := Lib.hid hI3
          obtain ⟨Bl, hBl⟩ : ∃ Bl, Bl = wd.heap.size := ⟨_, rfl⟩
          rw [← hBl] at HE3 ⊢
          have HBW := Lib.hid hBW
          clear hB hB3 hBW hE3 hI3 hBl
          gi_wp2
          clear k0
          gi_loopw [35] (fun i wr => ∃ q : Nat, q ≤ m ∧ i = .int .i64 q ∧ rowB l k q = true ∧ Below w3.heap.size w3 wr) (fun i _ => m - (intOf i).toNat)
          case atStart => exact ⟨0, by omega, rfl, rfl, Below.refl _ _⟩
          case round =>
            obtain ⟨q, hq, rfl, hrow, hBr⟩ := hrel
            have HROW := Lib.hid hrow
            clear hrow
            have hBWr := belowVia hBr HBW.out
            by_cases hltq : q < m
            · have hltq' : (q : Int) < m := by omega
              have hql : q < l.length := by rw [← HM.out]; exact hltq
              have hI4 := HI3.out.via hBr (by have := HBW.out.size; omega) (by have := HBW.out.size; omega)
              have hv2 := HV.out.via hI4.below
              obtain ⟨⟨a', c', he, _, _, hin⟩, _⟩ := hv2
              rw [← HM.out] at he
              cases he
              obtain ⟨g', o, rfl, c0, c1⟩ := hin.get hql
              have hE4 := (HE3.out.via hBr).via (alloc_below wr (.cells #[.int .i64 (vx l q).1, .int .i64 (vx l q).2] 38))
              have hB5 := belowVia (alloc_below wr (.cells #[.int .i64 (vx l q).1, .int .i64 (vx l q).2] 38)) hBr
              have hB6 := belowVia hB5 HBW.out
              have HC := Lib.hid (fun w => HL.out Bl q hql w)
              have HS := HRB.out q
              have HPq := Lib.hid (HPS.out q hltq)
              have HI4 := Lib.hid hI4
              have HE4 := Lib.hid hE4
              have HB5 := Lib.hid hB5
              have HB6 := Lib.hid hB6
              rw [HROW.out, Bool.true_and] at HS
              have HSS := Lib.hid HS
              clear hin hE4 hI4 hB5 hB6 HS hql HROW HRB HPS hBWr hBr
              unfold pv at HC
              generalize hlt5 : decide (0 < turn (vx l k) (nx l k) (vx l q)) = tb at *
              clear hlt5
              generalize vx l q = p at *
              obtain ⟨p1, p2⟩ := p
              dsimp only at c0 c1 HC HE4 HB5 HB6
              by_cases hqk : q = k
              · have HR2 : Hid (rowB l k (q + 1) = true) := Lib.hid (by rw [HSS.out]; simp [hqk])
                subst hqk
                clear HSS
                gi_wp2
                refine ⟨(fun f h => by cases h), ?_⟩
                gi_wp2
                go_roundw
                case rel => exact ⟨q + 1, by omega, by go_num, HR2.out, HB5.out⟩
                case measure => simp [intOf]; omega
              · by_cases hqj : q = j
                · have HR2 : Hid (rowB l k (q + 1) = true) := Lib.hid (by rw [HSS.out]; simp [hqj])
                  subst hqj
                  clear HSS
                  gi_wp2
                  refine ⟨(fun f h => by cases h), ?_⟩
                  gi_wp2
                  go_roundw
                  case rel => exact ⟨q + 1, by omega, by go_num, HR2.out, HB5.out⟩
                  case measure => simp [intOf]; omega
                · have HR2 : Hid (rowB l k (q + 1) = tb) := Lib.hid (by rw [HSS.out]; simp [hqk, hqj])
                  have n1 : ((q : Int) != (k : Int)) = true := by simp; omega
                  have n2 : ((q : Int) != (j : Int)) = true := by simp; omega
                  clear HSS hqk hqj
                  gi_wp2_with fail
                  refine ⟨trivial, ?_⟩
                  refine ((callsIn_wide.2 (HC.out _ HE4.out)).inRound L).mono ?_
                  rintro e w5 ⟨rfl, hB7⟩
                  have HB7 := Lib.hid hB7
                  clear hB7 c0 c1
                  cases tb with
                  | true =>
                    gi_wp2
                    go_roundw
                    case rel => exact ⟨q + 1, by omega, by go_num, HR2.out, belowVia HB7.out HB5.out⟩
                    case measure => simp [intOf]; omega
                  | false =>
                    have hI7 := HI4.out.via (belowVia HB7.out (alloc_below wr _)) (by have := (HB6.out).size; simp at this; have := HBW.out.size; omega) (by have := (HB6.out).size; simp at this; have := HBW.out.size; omega)
                    have c2 := hI7.flag.frozen
                    have c3 := hI7.flag.cell
                    have HI7 := Lib.hid hI7
                    clear hI7
                    gi_wp2
                    exact ⟨(Above.of_below (belowVia HB7.out HB6.out)).trans (Above.setCell _ _ _ _ (by omega)), rfl, HI7.out.set hlt _, HPq.out HR2.out⟩
            · obtain rfl : q = m := by omega
              have HR3 := Lib.hid (HRS.out HROW.out)
              have HI4 := Lib.hid (HI3.out.via hBr (by have := HBW.out.size; omega) (by have := HBW.out.size; omega))
              gi_wp2
              exact ⟨Above.of_below hBWr, HI4.out, HR3.out⟩
        case done =>
          rintro D W hD ⟨hI, hF⟩ hK
          have HR : Hid (valB l = true) := by rw [HV1.out, HON.out, show rowsB l m = true by rw [HM.out]; exact hF, decide_eq_true (by omega : 3 ≤ m), decide_eq_true (by omega : m ≤ 8)]; exact Lib.hid rfl
          have c2 := hI.flag.frozen
          have c2' := hI.flag.cell
          have hDl : D < W.heap.size := (Array.getElem?_eq_some_iff.1 hK).1
          have HK := Lib.hid hK
          have HI := Lib.hid hI
          clear hI hK hF HI0
          gi_wp2
          have hK5 : (W.setCell ⟨w.heap.size + 1, 0, none⟩ (.bool true)).heap[D]? = some (.deferred (some [])) := (heap_setCell_other _ _ _ _ (by simp; omega)).trans HK.out
          exact val_end (by omega) (HI.out.set hlt true).flag.cell (HI.out.set hlt true).below hK5 HR.out
        case stop =>
          rintro D c' k W hD hk ⟨rfl, hI, hF⟩ hK
          have HR : Hid (valB l = false) := by
            have : rowsB l m = false := by
              rcases e : rowsB l m with _ | _
              · rfl
              · have h := (rowsB_iff l m).1 e k (by rw [HM.out]; exact hk)
                rw [← HM.out, hF] at h; exact Bool.noConfusion h
            rw [HV1.out, this, Bool.and_false]; exact Lib.hid rfl
          have HK := Lib.hid hK
          have HI := Lib.hid hI
          clear hI hK hF HI0
          gi_wp2
          exact val_end (by omega) HI.out.flag.cell HI.out.below HK.out HR.out
theorem valid_w (l : List Pt) (hl : (l.length : Int) ≤ 4611686018427387904) (v : Value) (w : World) (hv : PtsAt w v l) :
    Calls Tryd.prog 48 #[v] w fun e w' => e = .returned (.bool (valB l)) ∧ Below w.heap.size w w' :=
  callsIn_wide.1 (valid_in l hl v w hv)
end Go.Proofs.YtcamncipkofgkaaDoor
/- PlnTotal: The contract of total. -/
namespace Go.Proofs.YtcamncipkofgkaaDoor
open Go.RowKit Go.Shelf Pln
attribute [local go_sem] Oper.semAt_some

structure TotI (w : World) (v : Value) (fv : Value) (x : Int) (A : World) : Prop where
  held : A.cell? ⟨w.heap.size + 1 + 1, 0, none⟩ = some v
  fn : A.cell? ⟨w.heap.size, 0, none⟩ = some fv
  now : Boxed A (w.heap.size + 1) 3 (.int .i64 x)
  below : Below w.heap.size w A
theorem TotI.held_ {w : World} {v fv : Value} {l : List Pt} {x : Int} {A : World} (h : TotI w v fv x A) (hv : PtsAt w v l) : Held (w.heap.size + 1 + 1) v l A := ⟨h.held, hv.via h.below⟩
theorem TotI.via {w w0 : World} {v fv : Value} {x : Int} {A A' : World} (h : TotI w v fv x A) (hB : Below w0.heap.size A A') (hs : w.heap.size + 1 + 1 < w0.heap.size) : TotI w v fv x A' :=
  ⟨kept_n hB hs h.held, kept_n hB (by omega) h.fn, (hB.block _ (by omega)).trans h.now, h.below.trans (below_of_le hB (by omega))⟩
theorem TotI.set {w : World} {v fv : Value} {x : Int} {A : World} (h : TotI w v fv x A) (y : Int) : TotI w v fv y (A.setCell ⟨w.heap.size + 1, 0, none⟩ (.int .i64 y)) :=
  ⟨(cell_set_ne (by omega)).trans h.held, (cell_set_ne (by omega)).trans h.fn, h.now.set _, h.below.setCell (p := ⟨w.heap.size + 1, 0, none⟩) (by simp) _⟩

set_option maxRecDepth 100000 in
set_option maxHeartbeats 4000000 in
theorem total_in (l : List Pt) (f : Pt → Pt → Int) (g : Nat) (eg : ∀ args w, (callFunc g args).run Tryd.prog w = .ok (.enter g args) w) (v : Value) (w : World) (hv : PtsAt w v l) (hl : l.length ≤ 100)
    (hf : ∀ k, k < l.length → ∀ w1, Calls Tryd.prog g #[ev (vx l k) (nx l k)] w1 fun e w' => e = .returned (.int .i64 (f (vx l k) (nx l k))) ∧ Below w1.heap.size w1 w')
    (hb : ∀ k, k ≤ l.length → -4611686018427387904 ≤ sumE l f k ∧ sumE l f k ≤ 4611686018427387904) :
    CallsIn Fence.wide 5 Tryd.prog 79 #[v, .func (.func g) #[] #[]] w fun e w' => e = .returned (.int .i64 (sumE l f l.length)) ∧ Below w.heap.size w w' := by
  have HV := Lib.hid hv
  obtain ⟨⟨a, c, rfl, _, _, _⟩, _⟩ := hv
  obtain ⟨m, hm⟩ : ∃ m, m = l.length := ⟨_, rfl⟩
  have HM := Lib.hid hm
  have hl0 := hl
  have hml : (m : Int) ≤ 100 := by omega
  rw [← hm] at HV ⊢
  clear hm
  refine callsIn_of_wp_marks Tryd.func79 rfl trivial ?_ rfl
  simp only [Tryd.ntmps79, List.size_toArray, List.length_cons, List.length_nil, Nat.reduceAdd, Nat.reduceSub, Array.replicate_succ, Array.replicate_zero, List.push_toArray, List.append_toArray, List.nil_append, List.cons_append]
  have EG := Lib.hid eg
  have HF := Lib.hid hf
  have HB := Lib.hid hb
  clear hf hb eg
  gi_wp2_with fail
  refine ⟨trivial, ?_⟩
  refine (callsIn_wide.2 (edges_w _ _ _ _)).mono ?_
  rintro e w1 ⟨rfl, rfl⟩
  gi_wp2_with fail
  obtain ⟨w0, hw0⟩ : ∃ w0 : World, w0 = ((w.alloc (.cells #[.func (.func g) #[] #[]] 119)).alloc (.cells #[.int .i64 0] 3)).alloc (.cells #[.slice a m c] 25) := ⟨_, rfl⟩
  have hsz : w0.heap.size = w.heap.size + 1 + 1 + 1 := by rw [hw0, World.size_alloc, World.size_alloc, World.size_alloc]
  have hB0 : Below w.heap.size w w0 := by rw [hw0]; exact (((Below.refl _ w).alloc (Nat.le_refl _) _).alloc (by simp) _).alloc (by simp; omega) _
  have hI0 : TotI w (.slice a m c) (.func (.func g) #[] #[]) 0 w0 := by
    rw [hw0]
    have e1 : (w.alloc (.cells #[.func (.func g) #[] #[]] 119)).heap.size = w.heap.size + 1 := World.size_alloc _ _
    have e2 : ((w.alloc (.cells #[.func (.func g) #[] #[]] 119)).alloc (.cells #[.int .i64 0] 3)).heap.size = w.heap.size + 1 + 1 := by rw [World.size_alloc, e1]
    refine ⟨?_, cellA _ (cellA _ (cell_rowN w _ _ 0 rfl)), ?_, by rw [← hw0]; exact hB0⟩
    · rw [← e2]; exact cell_rowN _ _ _ 0 rfl
    · rw [← e1]; exact (Boxed.new _ _ _).alloc _
  rw [← hw0]
  have HI0 := Lib.hid hI0
  clear hw0 hI0 hB0
  refine wpIn_rangeFunc_yields rfl (by omega) (gf := 100) (lb := #[.pointer (some ⟨w.heap.size + 1 + 1, 0, none⟩)]) rfl trivial (enters_of Tryd.func100 (by kernel_rfl) rfl)
    (edges1_yields 4 (w.heap.size + 1 + 1) (.slice a m c) l hl0) (fun _ => rfl)
    (fun k A => TotI w (.slice a m c) (.func (.func g) #[] #[]) (sumE l f k) A) (fun _ _ _ => False)
    (fun k A A' h hB => h.via hB (by omega)) (fun _ _ _ _ h _ => h) (fun k A h => h.held_ HV.out) HI0.out
    (fun k a' A => ∃ Be, Be ≠ w0.heap.size + 1 ∧ w.heap.size + 1 + 1 < Be ∧ A.heap[Be]? = some (.cells #[.int .i64 (vx l k).1, .int .i64 (vx l k).2, .int .i64 (nx l k).1, .int .i64 (nx l k).2] 113 (0, 0)) ∧ a' = { tmps := #[.slice a m c, .func (.func g) #[] #[], undef, .pointer (some ⟨w.heap.size, 0, none⟩), .int .i64 0, .pointer (some ⟨w.heap.size + 1, 0, none⟩), undef, .pointer (some ⟨Be, 0, none⟩), .slice a m c, .func (.func 100) #[] #[.pointer (some ⟨w.heap.size + 1 + 1, 0, none⟩)], .int .i64 k, ev (vx l k) (nx l k), undef, undef, undef, undef, undef, undef], defers := [] })
    (fun k a' A A' ⟨Be, h1, h2, h3, h4⟩ hk => ⟨Be, h1, h2, (hk Be h1).trans h3, h4⟩) ?assign ?body ?done (fun _ _ _ _ _ _ h _ => h.elim)
  case assign =>
    rintro L k W hk hlt hI
    have HI := Lib.hid hI
    clear hI
    have HE : Hid (encE l k = #[.int .i64 k, ev (vx l k) (nx l k)]) := Lib.hid rfl
    rw [HE.out]
    unfold ev
    gi_wp2
    have hb2 : Below W.heap.size W (W.alloc (.cells #[.int .i64 (vx l k).1, .int .i64 (vx l k).2, .int .i64 (nx l k).1, .int .i64 (nx l k).2] 113)) := alloc_below _ _
    exact ⟨Above.of_below hb2, HI.out.via (w0 := w0) (below_of_le hb2 (by omega)) (by omega), W.heap.size, by omega, by omega, heap_alloc_new _ _, rfl⟩
  case body =>
    rintro L k a' W hk hlt hI ⟨Be, hne, hlt2, hE, rfl⟩
    have hkl := hk
    have ht := HF.out k hkl
    have b1 := HB.out k (by omega)
    have b2 := HB.out (k + 1) (by omega)
    have HX : Hid (sumE l f (k + 1) = sumE l f k + f (vx l k) (nx l k)) := Lib.hid rfl
    rw [HX.out] at b2
    obtain ⟨t, htt⟩ : ∃ t, t = f (vx l k) (nx l k) := ⟨_, rfl⟩
    rw [← htt] at ht b2 HX
    obtain ⟨x, hx⟩ : ∃ x, x = sumE l f k := ⟨_, rfl⟩
    obtain ⟨y, hy⟩ : ∃ y, y = sumE l f (k + 1) := ⟨_, rfl⟩
    rw [← hx] at hI HX b1 b2
    rw [← hy] at HX
    have HYY := Lib.hid hy
    obtain ⟨b1, b1'⟩ := b1
    obtain ⟨b2, b2'⟩ := b2
    have hmn : IntKind.i64.wrap (x + t) = y := by rw [HX.out]; exact IntWalk.i64_in _ (by omega)
    have c0 := hI.now.cell
    have c1 := hI.now.frozen
    have p0 := hI.fn
    have e0 : W.cell? ⟨Be, 0, none⟩ = some (.int .i64 (vx l k).1) := cell_heap hE rfl
    have e1 : W.cell? ⟨Be, 1, none⟩ = some (.int .i64 (vx l k).2) := cell_heap hE rfl
    have e2 : W.cell? ⟨Be, 2, none⟩ = some (.int .i64 (nx l k).1) := cell_heap hE rfl
    have e3 : W.cell? ⟨Be, 3, none⟩ = some (.int .i64 (nx l k).2) := cell_heap hE rfl
    have HT := Lib.hid ht
    have HI := Lib.hid hI
    clear ht hI HX htt hx hy hE HI0 b2 b2' b1 b1'
    unfold ev at HT ⊢
    generalize vx l k = s at *
    generalize nx l k = r at *
    have k0 : W.drew.cell? ⟨w.heap.size + 1, 0, none⟩ = some (.int .i64 x) := c0
    have k1 : W.drew.frozen? ⟨w.heap.size + 1, 0, none⟩ = false := c1
    have p0 : W.drew.cell? ⟨w.heap.size, 0, none⟩ = some (.func (.func g) #[] #[]) := p0
    have e0 : W.drew.cell? ⟨Be, 0, none⟩ = some (.int .i64 s.1) := e0
    have e1 : W.drew.cell? ⟨Be, 1, none⟩ = some (.int .i64 s.2) := e1
    have e2 : W.drew.cell? ⟨Be, 2, none⟩ = some (.int .i64 r.1) := e2
    have e3 : W.drew.cell? ⟨Be, 3, none⟩ = some (.int .i64 r.2) := e3
    gi_wp2
    have hB : Below W.heap.size W W.drew := (Below.refl _ _).drew
    refine wpIn_region_T (fun w' => Below W.drew.heap.size W.drew w') 5 (by kernel_rfl) ?_
    generalize W.drew = wd at *
    refine wpT_tk 0 12 (v := ?_) (Below.refl _ _) rfl rfl (by rfl) (hy := fun w hw => ?_) (h := ?_)
    rotate_left
    · have k0 := keptBelow hw k0; go_simp; with_reducible rfl
    try simp only [Act.put, List.setIfInBounds_toArray, List.set_cons_zero, List.set_cons_succ]
    refine wpT_tk 1 13 (v := ?_) (Below.refl _ _) rfl rfl (by rfl) (hy := fun w hw => ?_) (h := ?_)
    rotate_left
    · have p0 := keptBelow hw p0; go_simp; with_reducible rfl
    try simp only [Act.put, List.setIfInBounds_toArray, List.set_cons_zero, List.set_cons_succ]
    refine wpT_tk 2 14 (v := ?_) (Below.refl _ _) rfl rfl (by rfl) (hy := fun w hw => ?_) (h := ?_)
    rotate_left
    · have e0 := keptBelow hw e0; have e1 := keptBelow hw e1; have e2 := keptBelow hw e2; have e3 := keptBelow hw e3; go_simp; with_reducible rfl
    try simp only [Act.put, List.setIfInBounds_toArray, List.set_cons_zero, List.set_cons_succ]
    have eg := EG.out
    refine wpT_one 3 rfl rfl (by kernel_rfl) ?_
    go_simp
    refine ⟨trivial, ?_⟩
    refine ((callsIn_wide.2 (HT.out _)).inRound L).mono ?_

    rintro e w3 ⟨rfl, hB3⟩
    have k1 := frozenBelow hB3 k0 k1
    have k0 := keptBelow hB3 k0
    have hB := belowVia hB3 hB
    clear e0 e1 e2 e3 p0 eg
    refine ⟨hB3, ?_⟩
    refine wpT_tk 4 16 (v := ?_) hB3 rfl rfl (by rfl) (hy := fun w hw => ?_) (h := ?_)
    rotate_left
    · go_simp; with_reducible rfl
    try simp only [Act.put, List.setIfInBounds_toArray, List.set_cons_zero, List.set_cons_succ]
    refine wpT_one 5 rfl rfl (by kernel_rfl) ?_
    go_simp
    refine wpT_done (by kernel_rfl) ?_ _
    refine ⟨(Above.of_below hB).trans (Above.setCell w3 (w.heap.size + 1) 0 _ (by omega)), ?_⟩
    have h5 := (HI.out.via (w0 := W) hB (by omega)).set y
    rw [HYY.out] at h5 ⊢
    exact h5
  case done =>
    rintro D W hD hI hK
    have c0 := hI.now.cell
    have hB := hI.below
    obtain ⟨x, hx⟩ : ∃ x, x = sumE l f l.length := ⟨_, rfl⟩
    rw [← hx] at c0
    have HXX := Lib.hid hx
    have hDl : D < W.heap.size := (Array.getElem?_eq_some_iff.1 hK).1
    have HK := Lib.hid hK
    clear hI hK hx HI0
    gi_wp2
    refine ⟨by simp, .inl ⟨_, _, rfl, run_takeDeferred HK.out, ?_⟩⟩
    exact ⟨_, results_tmp rfl _ _ _, (by rw [HM.out, ← HXX.out]; rfl), hB.trans (belowK_b (w := w) (Nat.le_refl _) W D _ _ (by omega) HK.out rfl rfl)⟩
theorem total_w (l : List Pt) (f : Pt → Pt → Int) (g : Nat) (eg : ∀ args w, (callFunc g args).run Tryd.prog w = .ok (.enter g args) w) (v : Value) (w : World) (hv : PtsAt w v l) (hl : l.length ≤ 100)
    (hf : ∀ k, k < l.length → ∀ w1, Calls Tryd.prog g #[ev (vx l k) (nx l k)] w1 fun e w' => e = .returned (.int .i64 (f (vx l k) (nx l k))) ∧ Below w1.heap.size w1 w')
    (hb : ∀ k, k ≤ l.length → -4611686018427387904 ≤ sumE l f k ∧ sumE l f k ≤ 4611686018427387904) :
    Calls Tryd.prog 79 #[v, .func (.func g) #[] #[]] w fun e w' => e = .returned (.int .i64 (sumE l f l.length)) ∧ Below w.heap.size w w' :=
  callsIn_wide.1 (total_in l f g eg v w hv hl hf hb)
end Go.Proofs.YtcamncipkofgkaaDoor
/- PlnSteps: The contract of steps: the greatest common divisor. -/
namespace Go.Proofs.YtcamncipkofgkaaDoor
open Go.RowKit Pln

theorem gcd_step (x y : Int) : Int.gcd y (x.tmod y) = Int.gcd x y := by
  unfold Int.gcd
  rw [Int.natAbs_tmod, Nat.gcd_comm x.natAbs, Nat.gcd_rec y.natAbs x.natAbs, Nat.gcd_comm]
theorem tmod_lt {x y : Int} (h : y ≠ 0) : (x.tmod y).natAbs < y.natAbs := by
  rw [Int.natAbs_tmod]; exact Nat.mod_lt _ (by omega)
end Go.Proofs.YtcamncipkofgkaaDoor
