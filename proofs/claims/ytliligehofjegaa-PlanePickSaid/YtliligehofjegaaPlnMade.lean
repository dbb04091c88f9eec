/- The contract of the reference's Made. -/
import Derived.Test.YtliligehofjegaaPlnHullW
import Derived.Test.YtliligehofjegaaPlnMadeP
namespace Go.Proofs.Ytliligehofjegaa
open Go.RowKit Go.Shelf Pln

/-- append to a slice that is nil or the call's own, inside a fence. -/
theorem wpIn_append_own {F : Fence} {n : Nat} {P : Program} {o : Oper} {a : Act} {w : World} {K : Act → World → Prop} {Q : Exit → Act → World → Prop}
    (s x : Operand) (t : TypeId) (hop : o.op = Op.call { callee := Callee.builtin Builtin.append, args := #[s, x], argTypes := #[t, t] })
    (base : Nat) (e : TypeId) (i : TypeInfo) (z : Value) (size bytes : Nat) (h1 : P.underlying t = some (.slice e)) (h2 : P.info? e = some i) (h3 : i.zero = some z) (h4 : i.size = size) (h5 : i.bytes = bytes) (h6 : z.cells.size = size) (h7 : 0 < size)
    (v : Value) (k : Nat) (xs : List Value) (hs : a.eval s = v) (hown : w.ownsRow base e size v k xs) (ad : Addr) (m c : Nat) (news : List Value) (hx : a.eval x = .slice (some ad) m c) (hn : news.length = m * size)
    (hc : ∀ j u, news[j]? = some u → w.cell? (ad.add j) = some u) (h1c : ∀ u ∈ news, u.oneCell' = true) (b1 : k + m ≤ maxLen) (b2 : (k + m) * bytes ≤ 140737488355328) (b3 : base ≤ w.heap.size)
    (hK : ∀ v' w', w'.ownsRow base e size v' (k + m) (xs ++ news) → w.grownBy w' v.ownBlock → K (a.put o.dst v') w') : o.wpIn F n P a w K Q := by
  obtain ⟨v', w', hrun, r1, r2, _⟩ := run_append_own (P := P) w base t o.type e i z size bytes h1 h2 h3 h4 h5 h6 h7 v k xs hown ad m c news hn hc h1c b1 b2 b3
  refine ⟨fun f hf => ?_, ?_⟩
  · unfold Oper.about at hf
    rw [hop] at hf
    simp [resolve] at hf
    cases hf
  · rw [Oper.semAt_plain F _ _ (fun c => by rw [hop]; intro h; cases h)]
    simp [execOp, hop, resolve, invoke, builtin, hs, hx, hrun, Result.andThen, Oper.uponIn]
    exact hK v' w' r1 r2
theorem some_next {x : List Pt} {low high : Int} {k : Nat} (h : k < x.length) : (x.take (k + 1)).map (mkP low high) = (x.take k).map (mkP low high) ++ [mkP low high (vx x k)] := by
  rw [List.take_add_one, vx_eq h, List.map_append]; simp [List.getElem?_eq_getElem h]
/-- The triangle as it is built. -/
theorem tri_at (w : World) (low high : Int) : (w.alloc (.cells #[.int .i64 low, .int .i64 10, .int .i64 high, .int .i64 10, .int .i64 low, .int .i64 20] 26)).ownsRow w.heap.size 26 2 (.slice (some ⟨w.heap.size, 0, none⟩) 3 3) 3 (cellsP (triP low high)) :=
  ⟨rfl, .inr ⟨w.heap.size, 3, #[.int .i64 low, .int .i64 10, .int .i64 high, .int .i64 10, .int .i64 low, .int .i64 20], rfl, Nat.le_refl _, heap_alloc_new w _, Nat.le_refl _, by unfold maxLen; omega, rfl, rfl⟩⟩
theorem at_cells {w : World} {g o n c : Nat} {l : List Pt} (h : PtsAt w (.slice (some ⟨g, o, none⟩) n c) l) : n = l.length ∧ n ≤ c ∧ (c : Int) ≤ 9223372036854775807 ∧ ∀ j, j < l.length → w.cell? ⟨g, o + j * 2, none⟩ = some (.int .i64 (vx l j).1) ∧ w.cell? ⟨g, o + j * 2 + 1, none⟩ = some (.int .i64 (vx l j).2) := by
  obtain ⟨⟨a, c', he, h1, h2, hin⟩, _⟩ := h
  cases he
  refine ⟨rfl, h1, h2, fun j hj => ?_⟩
  obtain ⟨g', o', he, h3, h4⟩ := hin.get hj
  cases he
  exact ⟨h3, h4⟩
theorem some_all {x : List Pt} {low high : Int} {k : Nat} (h : k ≤ x.length) (h8 : k ≤ 8) (h2 : ¬ (k < x.length ∧ k < 8)) : (x.take k).map (mkP low high) = someP x low high := by
  unfold someP
  by_cases e : k = 8
  · rw [e]
  · rw [List.take_of_length_le (by omega), List.take_of_length_le (by omega)]
theorem empty_own (w : World) : (w.alloc (.cells #[] 26)).ownsRow w.heap.size 26 2 (.slice (some ⟨w.heap.size, 0, none⟩) 0 0) 0 [] :=
  ⟨rfl, .inr ⟨w.heap.size, 0, #[], rfl, Nat.le_refl _, heap_alloc_new w _, Nat.le_refl _, by unfold maxLen; omega, rfl, rfl⟩⟩
theorem tdiv_in {p : Int} (h : I64 p) : I64 (p.tdiv 41) := by
  obtain ⟨h1, h2⟩ := h
  rcases Int.le_total 0 p with h | h
  · rw [Int.tdiv_eq_ediv_of_nonneg h]; exact ⟨by omega, by omega⟩
  · obtain ⟨q, rfl⟩ : ∃ q, p = -q := ⟨-p, by omega⟩
    rw [Int.neg_tdiv, Int.tdiv_eq_ediv_of_nonneg (by omega)]; exact ⟨by omega, by omega⟩
set_option maxRecDepth 100000 in
set_option maxHeartbeats 1000000 in
theorem made_w (x : List Pt) (hx : (x.length : Int) ≤ 9223372036854775807) (low high : Int) (h0 : 0 ≤ low) (h1 : low < high) (h2 : high ≤ 40) (v : Value) (w : World) (hv : PtsAt w v x) :
    Calls Try.prog 14 #[v, .int .i64 low, .int .i64 high] w fun e w' => ∃ r, e = .returned r ∧ PtsAt w' r (madeP x low high) ∧ Below w.heap.size w w' := by
  have HV := Lib.hid hv
  have HOK := Lib.hid hv.ok
  obtain ⟨⟨a, c, rfl, _, _, _⟩, _⟩ := hv
  obtain ⟨n, hn⟩ : ∃ n, n = x.length := ⟨_, rfl⟩
  have HNN := Lib.hid hn
  have hnb : (n : Int) ≤ 9223372036854775807 := by omega
  rw [← hn] at HV ⊢
  clear hn hx
  obtain ⟨i0, hi, hz0, hz1, hz2⟩ := info_parts info_pt
  have HI := Lib.hid hi
  have HZ0 := Lib.hid hz0
  have HZ1 := Lib.hid hz1
  have HZ2 := Lib.hid hz2
  clear hi hz0 hz1 hz2
  have HT0 := Lib.hid (tri_at w low high)
  go_enter Try.func14, Try.ntmps14
  go_wp2_with fail
  have HB0 := Lib.hid (alloc_below w (.cells #[.int .i64 low, .int .i64 10, .int .i64 high, .int .i64 10, .int .i64 low, .int .i64 20] 26))
  go_loopw [8, 9] (fun u i wr => ∃ k : Nat, k ≤ n ∧ k ≤ 8 ∧ (k = 0 → u = .slice none 0 0) ∧ i = .int .i64 k ∧ wr.ownsRow (w.heap.size + 1) 26 2 u k (cellsP ((x.take k).map (mkP low high))) ∧ Below (w.heap.size + 1) (w.alloc (.cells #[.int .i64 low, .int .i64 10, .int .i64 high, .int .i64 10, .int .i64 low, .int .i64 20] 26)) wr) (fun _ i _ => n - (intOf i).toNat)
  case atStart => exact ⟨0, by omega, by omega, fun _ => rfl, rfl, ⟨rfl, .inl ⟨rfl, rfl⟩⟩, Below.refl _ _⟩
  case round =>
    obtain ⟨k, hk, hk8, hkz, rfl, hown, hB⟩ := hrel
    have HKZ := Lib.hid hkz
    clear hkz
    have HBr := Lib.hid hB
    have HOr := Lib.hid hown
    clear hown hB
    have hk8b : (k : Int) ≤ 8 := by omega
    by_cases hlt : k < n ∧ k < 8
    · obtain ⟨hlt, hlt8⟩ := hlt
      have hlt' : (k : Int) < n := by omega
      have hlt8' : (k : Int) < 8 := by omega
      have hkl : k < x.length := by rw [← HNN.out]; exact hlt
      have HBw := Lib.hid (belowStep HB0.out (HBr.out.mono (by simp)))
      have hv2 := HV.out.via HBw.out
      obtain ⟨⟨a', c', he, _, _, hin⟩, _⟩ := hv2
      rw [← HNN.out] at he
      cases he
      obtain ⟨g, o, rfl, c0, c1⟩ := hin.get hkl
      obtain ⟨⟨i1, i2⟩, i3, i4⟩ := pt_ok HOK.out hkl
      have HSN := Lib.hid (some_next (low := low) (high := high) hkl)
      clear hin hkl
      generalize vx x k = p at *
      obtain ⟨p1, p2⟩ := p
      dsimp only at c0 c1 i1 i2 i3 i4
      have hp := pkI_in (c := p1) (n := high - low + 1) (by omega)
      have hq := pkI_in (c := p2) (n := 41) (by omega)
      have HP1 := Lib.hid (fun w1 => pickR_w p1 (high - low + 1) ⟨i1, i2⟩ (by omega) (by omega) w1)
      have HP2 := Lib.hid (fun w1 => pickR_w p2 41 ⟨i3, i4⟩ (by omega) (by omega) w1)
      have hmk : mkP low high (p1, p2) = (low + pkN p1 (high - low + 1), pkN p2 41) := rfl
      rw [hmk] at HSN
      change 0 ≤ pkN p1 (high - low + 1) ∧ pkN p1 (high - low + 1) < _ at hp
      change 0 ≤ pkN p2 41 ∧ pkN p2 41 < 41 at hq
      generalize pkN p1 (high - low + 1) = A at *
      generalize pkN p2 41 = B at *
      obtain ⟨hp1, hp2⟩ := hp
      obtain ⟨hq1, hq2⟩ := hq
      clear i1 i2 i3 i4 hmk
      have hw1 : IntKind.i64.wrap (high - low) = high - low := IntWalk.i64_in _ (by omega)
      have hw2 : IntKind.i64.wrap (high - low + 1) = high - low + 1 := IntWalk.i64_in _ (by omega)
      have hw3 : IntKind.i64.wrap (low + A) = low + A := IntWalk.i64_in _ (by omega)
      go_wp2_with fail
      refine (wpIn_wide (n := 5)).1 ?_
      refine wpIn_region_T (fun w' => Below wr.drew.heap.size wr.drew w') 21 (by kernel_rfl) ?_
      have hd : Below wr.heap.size wr wr.drew := (Below.refl _ _).drew
      generalize wr.drew = wd at *
      have c0 := keptBelow hd c0
      have c1 := keptBelow hd c1
      refine wpT_tk 0 29 (v := ?_) (Below.refl _ _) rfl rfl (by rfl) (hy := fun w hw => ?_) (h := ?_)
      rotate_left
      · go_simp; with_reducible rfl
      try simp only [Act.put, List.setIfInBounds_toArray, List.set_cons_zero, List.set_cons_succ]
      refine wpT_tk 1 30 (v := ?_) (Below.refl _ _) rfl rfl (by rfl) (hy := fun w hw => ?_) (h := ?_)
      rotate_left
      · go_simp; with_reducible rfl
      try simp only [Act.put, List.setIfInBounds_toArray, List.set_cons_zero, List.set_cons_succ]
      refine wpT_tk 2 31 (v := ?_) (Below.refl _ _) rfl rfl (by rfl) (hy := fun w hw => ?_) (h := ?_)
      rotate_left
      · go_simp; with_reducible rfl
      try simp only [Act.put, List.setIfInBounds_toArray, List.set_cons_zero, List.set_cons_succ]
      refine wpT_tk 3 32 (v := ?_) (Below.refl _ _) rfl rfl (by rfl) (hy := fun w hw => ?_) (h := ?_)
      rotate_left
      · go_simp; with_reducible rfl
      try simp only [Act.put, List.setIfInBounds_toArray, List.set_cons_zero, List.set_cons_succ]
      refine wpT_tk 4 33 (v := ?_) (Below.refl _ _) rfl rfl (by rfl) (hy := fun w hw => ?_) (h := ?_)
      rotate_left
      · go_simp; with_reducible rfl
      try simp only [Act.put, List.setIfInBounds_toArray, List.set_cons_zero, List.set_cons_succ]
      refine wpT_tk 5 34 (v := ?_) (Below.refl _ _) rfl rfl (by rfl) (hy := fun w hw => ?_) (h := ?_)
      rotate_left
      · go_simp; with_reducible rfl
      try simp only [Act.put, List.setIfInBounds_toArray, List.set_cons_zero, List.set_cons_succ]
      refine wpT_tk 6 35 (v := ?_) (Below.refl _ _) rfl rfl (by rfl) (hy := fun w hw => ?_) (h := ?_)
      rotate_left
      · have c0 := keptBelow hw c0; go_simp; with_reducible rfl
      try simp only [Act.put, List.setIfInBounds_toArray, List.set_cons_zero, List.set_cons_succ]
      refine wpT_tk 7 36 (v := ?_) (Below.refl _ _) rfl rfl (by rfl) (hy := fun w hw => ?_) (h := ?_)
      rotate_left
      · go_simp; with_reducible rfl
      try simp only [Act.put, List.setIfInBounds_toArray, List.set_cons_zero, List.set_cons_succ]
      refine wpT_tk 8 37 (v := ?_) (Below.refl _ _) rfl rfl (by rfl) (hy := fun w hw => ?_) (h := ?_)
      rotate_left
      · go_simp; with_reducible rfl
      try simp only [Act.put, List.setIfInBounds_toArray, List.set_cons_zero, List.set_cons_succ]
      refine wpT_tk 9 38 (v := ?_) (Below.refl _ _) rfl rfl (by rfl) (hy := fun w hw => ?_) (h := ?_)
      rotate_left
      · go_simp; with_reducible rfl
      try simp only [Act.put, List.setIfInBounds_toArray, List.set_cons_zero, List.set_cons_succ]
      refine wpT_tk 10 39 (v := ?_) (Below.refl _ _) rfl rfl (by rfl) (hy := fun w hw => ?_) (h := ?_)
      rotate_left
      · go_simp; with_reducible rfl
      try simp only [Act.put, List.setIfInBounds_toArray, List.set_cons_zero, List.set_cons_succ]
      refine wpT_tk 13 42 (v := ?_) (Below.refl _ _) rfl rfl (by rfl) (hy := fun w hw => ?_) (h := ?_)
      rotate_left
      · go_simp; with_reducible rfl
      try simp only [Act.put, List.setIfInBounds_toArray, List.set_cons_zero, List.set_cons_succ]
      refine wpT_tk 14 43 (v := ?_) (Below.refl _ _) rfl rfl (by rfl) (hy := fun w hw => ?_) (h := ?_)
      rotate_left
      · go_simp; with_reducible rfl
      try simp only [Act.put, List.setIfInBounds_toArray, List.set_cons_zero, List.set_cons_succ]
      refine wpT_tk 15 44 (v := ?_) (Below.refl _ _) rfl rfl (by rfl) (hy := fun w hw => ?_) (h := ?_)
      rotate_left
      · go_simp; with_reducible rfl
      try simp only [Act.put, List.setIfInBounds_toArray, List.set_cons_zero, List.set_cons_succ]
      refine wpT_tk 16 45 (v := ?_) (Below.refl _ _) rfl rfl (by rfl) (hy := fun w hw => ?_) (h := ?_)
      rotate_left
      · go_simp; with_reducible rfl
      try simp only [Act.put, List.setIfInBounds_toArray, List.set_cons_zero, List.set_cons_succ]
      refine wpT_tk 17 46 (v := ?_) (Below.refl _ _) rfl rfl (by rfl) (hy := fun w hw => ?_) (h := ?_)
      rotate_left
      · have c1 := keptBelow hw c1; go_simp; with_reducible rfl
      try simp only [Act.put, List.setIfInBounds_toArray, List.set_cons_zero, List.set_cons_succ]
      refine wpT_one 11 rfl rfl (by kernel_rfl) ?_
      go_simp
      refine ⟨trivial, ?_⟩
      refine (callsIn_wide.2 (HP1.out wd)).mono ?_
      rintro e u3 ⟨rfl, rfl⟩
      refine ⟨Below.refl _ _, ?_⟩
      refine wpT_tk 12 41 (v := ?_) (Below.refl _ _) rfl rfl (by rfl) (hy := fun w hw => ?_) (h := ?_)
      rotate_left
      · go_simp; with_reducible rfl
      try simp only [Act.put, List.setIfInBounds_toArray, List.set_cons_zero, List.set_cons_succ]
      refine wpT_one 18 rfl rfl (by kernel_rfl) ?_
      go_simp
      refine ⟨trivial, ?_⟩
      refine (callsIn_wide.2 (HP2.out wd)).mono ?_
      rintro e u3 ⟨rfl, rfl⟩
      refine ⟨Below.refl _ _, ?_⟩
      refine wpT_one 19 rfl rfl (by kernel_rfl) ?_
      go_simp
      refine ⟨Below.refl _ _, ?_⟩
      refine wpT_one 20 rfl rfl (by kernel_rfl) ?_
      go_simp
      refine ⟨alloc_below _ _, ?_⟩
      refine wpT_one 21 rfl rfl (by kernel_rfl) ?_
      have hHB := belowStep hd (alloc_below wd (.cells #[.int .i64 (low + A), .int .i64 B] 26))
      have HN := Lib.hid (news_in (w := wd.alloc (.cells #[.int .i64 (low + A), .int .i64 B] 26)) (g := wd.heap.size) (o := 0) (l := [(low + A, B)]) (fun j hj => by obtain rfl : j = 0 := (by simp at hj; omega); exact ⟨cell_rowN wd _ _ 0 rfl, cell_rowN wd _ _ 1 rfl⟩))
      have HA := Lib.hid (app_ok (n := k) (m := 1) (by omega))
      have HO6 := Lib.hid (own_via HOr.out hHB)
      refine wpIn_append_own _ _ 23 rfl (w.heap.size + 1) 26 i0 (.agg #[.int .i64 0, .int .i64 0]) 2 16 Try.underlying23 HI.out HZ0.out HZ1.out HZ2.out rfl (by decide) _ k _ rfl HO6.out ⟨wd.heap.size, 0, none⟩ 1 1 (cellsP [(low + A, B)]) rfl rfl HN.out (cellsP_one _) HA.out.1 HA.out.2 (by have := HBr.out.size; have := hHB.size; simp at *; omega) ?_
      intro v' w5 hown5 hgrow5
      have HB5 := Lib.hid ((HBr.out.trans (hHB.mono (by have := HBr.out.size; simp at this; omega))).grown hgrow5 (by have := HBr.out.size; have := hHB.size; simp at *; omega) (fun k hk => (own_lt HO6.out k hk).1))
      rw [← cellsP_app, ← HSN.out] at hown5
      have HO5 := Lib.hid hown5
      clear hown5 hgrow5
      refine ⟨fun h => (by cases h), ?_⟩
      refine wpT_one 22 rfl rfl (by kernel_rfl) ?_
      go_simp
      refine wpT_done (by kernel_rfl) ?_ _
      go_wp2_with fail
      go_roundw
      case rel => exact ⟨k + 1, by omega, by omega, fun h => by omega, by go_num, HO5.out, HB5.out⟩
      case measure => simp [intOf]; omega
    · have HSA := Lib.hid (some_all (low := low) (high := high) (k := k) (by rw [← HNN.out]; exact hk) hk8 (by rw [← HNN.out]; exact hlt))
      have HBw := Lib.hid (belowStep HB0.out (HBr.out.mono (by simp)))
      rw [HSA.out] at HOr
      have hsl := someP_len x low high
      rw [← HNN.out] at hsl
      have hkl : k = (someP x low high).length := by rw [hsl]; omega
      have HKL := Lib.hid hkl
      have HPS : Hid (PtsAt wr u8 (someP x low high)) := Lib.hid (owns_at (by rw [← hkl]; exact HOr.out) (fun r hr => on_i64 (someP_ons h0 h1 h2 x r hr)))
      have HTR : Hid (PtsAt wr (.slice (some ⟨w.heap.size, 0, none⟩) 3 3) (triP low high)) := Lib.hid ((owns_at HT0.out (fun r hr => on_i64 (by obtain ⟨i, hi, rfl⟩ := mem_vx hr; exact (triP_val h0 h1 h2).on i hi))).via (HBr.out.mono (by simp)))
      have HHU := Lib.hid (fun (hp : 0 < (someP x low high).length) => hull_w (someP x low high) hp (by rw [hsl]; omega) (someP_ons h0 h1 h2 x) _ wr HPS.out)
      have HMD : Hid (madeP x low high = rot (baseP x low high) (turnK x (baseP x low high).length)) := Lib.hid rfl
      have HBA : Hid (baseP x low high = if 3 ≤ (hulP (someP x low high)).length then hulP (someP x low high) else triP low high) := Lib.hid rfl
      have HTK : Hid (∀ m, turnK x m = if n = 0 then 0 else (pkN ((vx x 0).1.tdiv 41) m).toNat) := Lib.hid (fun m => by rw [HNN.out]; rfl)
      have HEQ : Hid (u8 = .slice none 0 0 ∧ k = 0 ∨ ∃ g cap, u8 = .slice (some ⟨g, 0, none⟩) k cap) := Lib.hid (by
        rcases HOr.out.2 with ⟨h, h'⟩ | ⟨g, cap, cur, h, _⟩
        · exact .inl ⟨h, h'⟩
        · exact .inr ⟨g, cap, h⟩)
      have hk0n : k = 0 → n = 0 := by omega
      by_cases hk0 : k = 0
      · have hu := HKZ.out hk0
        subst hk0
        have hn0z : n = 0 := hk0n rfl
        subst hu
        have hsn : someP x low high = [] := List.length_eq_zero_iff.1 hkl.symm
        rw [hsn, if_neg (by rw [hulP_none]; omega)] at HBA
        have HB3 := HBw
        have HLV := HTR
        clear hkl hsl hk0n HHU HPS hsn hlt
        go_wp2_with fail
        refine (wpIn_wide (n := 5)).1 ?_
        refine wpIn_region_T (fun w' => Below wr.drew.heap.size wr.drew w') 8 (by kernel_rfl) ?_
        have hd : Below wr.heap.size wr wr.drew := (Below.refl _ _).drew
        obtain ⟨hLe, hLc, hLc2, hcells⟩ := at_cells (HLV.out.via hd)
        have HLEN := Lib.hid hLe
        clear hLe
        have HRES : Hid (madeP x low high = (triP low high).drop 0 ++ (triP low high).take 0) := Lib.hid (by rw [HMD.out, HBA.out, ← HLEN.out, HTK.out, if_pos hn0z]; rfl)
        have HBW := Lib.hid (belowStep HB3.out hd)
        generalize wr.drew = wd at *
        have HCE := Lib.hid hcells
        clear hcells
        refine wpT_tk 1 72 (v := ?_) (Below.refl _ _) rfl rfl (by rfl) (hy := fun w hw => ?_) (h := ?_)
        rotate_left
        · go_simp; with_reducible rfl
        try simp only [Act.put, List.setIfInBounds_toArray, List.set_cons_zero, List.set_cons_succ]
        refine wpT_tk 2 73 (v := ?_) (Below.refl _ _) rfl rfl (by rfl) (hy := fun w hw => ?_) (h := ?_)
        rotate_left
        · go_simp; with_reducible rfl
        try simp only [Act.put, List.setIfInBounds_toArray, List.set_cons_zero, List.set_cons_succ]
        refine wpT_tk 3 74 (v := ?_) (Below.refl _ _) rfl rfl (by rfl) (hy := fun w hw => ?_) (h := ?_)
        rotate_left
        · go_simp; with_reducible rfl
        try simp only [Act.put, List.setIfInBounds_toArray, List.set_cons_zero, List.set_cons_succ]
        refine wpT_tk 5 76 (v := ?_) (Below.refl _ _) rfl rfl (by rfl) (hy := fun w hw => ?_) (h := ?_)
        rotate_left
        · go_simp; with_reducible rfl
        try simp only [Act.put, List.setIfInBounds_toArray, List.set_cons_zero, List.set_cons_succ]
        refine wpT_tk 6 77 (v := ?_) (Below.refl _ _) rfl rfl (by rfl) (hy := fun w hw => ?_) (h := ?_)
        rotate_left
        · go_simp; with_reducible rfl
        try simp only [Act.put, List.setIfInBounds_toArray, List.set_cons_zero, List.set_cons_succ]
        refine wpT_tk 7 78 (v := ?_) (Below.refl _ _) rfl rfl (by rfl) (hy := fun w hw => ?_) (h := ?_)
        rotate_left
        · go_simp; with_reducible rfl
        try simp only [Act.put, List.setIfInBounds_toArray, List.set_cons_zero, List.set_cons_succ]
        refine wpT_one 0 rfl rfl (by kernel_rfl) ?_
        go_simp
        refine ⟨alloc_below _ _, ?_⟩
        refine wpT_one 4 rfl rfl (by kernel_rfl) ?_
        have HN4 := Lib.hid (news_in (w := wd.alloc (.cells #[] 26)) (g := w.heap.size) (o := 0) (l := (triP low high).drop 0) (fun j hj => by have hj2 := HCE.out (0 + j) (by rw [List.length_drop] at hj; omega); rw [vx_drop, show 0 + j * 2 = 0 + (0 + j) * 2 by omega]; exact ⟨keptBelow (alloc_below _ _) hj2.1, keptBelow (alloc_below _ _) hj2.2⟩))
        have HL4 := Lib.hid (show (cellsP ((triP low high).drop 0)).length = 3 * 2 by rw [cellsP_len, List.length_drop, ← HLEN.out])
        have HL8 := Lib.hid (show (cellsP ((triP low high).take 0)).length = 0 * 2 by rfl)
        have HA4 := Lib.hid (app_ok (n := 0) (m := 3) (by omega))
        have HA8 := Lib.hid (app_ok (n := 0 + 3) (m := 0) (by omega))
        have HEM := Lib.hid (empty_own wd)
        refine wpIn_append_own _ _ 23 rfl wd.heap.size 26 i0 (.agg #[.int .i64 0, .int .i64 0]) 2 16 Try.underlying23 HI.out HZ0.out HZ1.out HZ2.out rfl (by decide) _ 0 [] rfl HEM.out ⟨w.heap.size, 0, none⟩ 3 3 (cellsP ((triP low high).drop 0)) rfl HL4.out HN4.out (cellsP_one _) HA4.out.1 HA4.out.2 (by simp) ?_
        intro v4 w4 hown4 hgrow4
        have hB4 := (alloc_below wd (.cells #[] 26)).grown hgrow4 (by simp) (fun k hk => (own_lt HEM.out k hk).1)
        refine ⟨fun _ => hB4, ?_⟩
        refine wpT_one 8 rfl rfl (by kernel_rfl) ?_
        have HN8 := Lib.hid (news_in (w := w4) (g := w.heap.size) (o := 0) (l := (triP low high).take 0) (fun j hj => by rw [List.length_take] at hj; have hj2 := HCE.out j (by omega); rw [vx_take (by omega)]; exact ⟨keptBelow hB4 hj2.1, keptBelow hB4 hj2.2⟩))
        refine wpIn_append_own _ _ 23 rfl wd.heap.size 26 i0 (.agg #[.int .i64 0, .int .i64 0]) 2 16 Try.underlying23 HI.out HZ0.out HZ1.out HZ2.out rfl (by decide) _ (0 + 3) _ rfl hown4 ⟨w.heap.size, 0, none⟩ 0 3 (cellsP ((triP low high).take 0)) rfl HL8.out HN8.out (cellsP_one _) HA8.out.1 HA8.out.2 hB4.size ?_
        intro v8 w8 hown8 hgrow8
        have hB8 := hB4.grown hgrow8 hB4.size (fun k hk => (own_lt hown4 k hk).1)
        rw [List.nil_append, ← cellsP_app, show 0 + 3 + 0 = ((triP low high).drop 0 ++ (triP low high).take 0).length by rw [List.length_append, List.length_drop, List.length_take, ← HLEN.out]; omega, ← HRES.out] at hown8
        have HO8 := Lib.hid hown8
        have HB8 := Lib.hid (belowStep HBW.out hB8)
        clear hown4 hgrow4 hown8 hgrow8 hB4 hB8
        refine ⟨fun h => (by cases h), ?_⟩
        refine wpT_one 9 rfl rfl (by kernel_rfl) ?_
        go_simp
        refine wpT_done (by kernel_rfl) ?_ _
        go_wp2_with fail
        go_ret
        exact ⟨_, rfl, owns_at HO8.out (val_ok (madeP_val h0 h1 h2 x)), HB8.out⟩
      · have hn0 : 0 < n := by omega
        have hn0' : ¬ n = 0 := by omega
        rcases HEQ.out with ⟨_, h⟩ | ⟨gs, cs, rfl⟩
        · exact absurd h hk0
        have HHV := Lib.hid (HHU.out (by omega))
        clear hkl hsl hk0n
        rcases Nat.lt_or_ge k n with hkn | hkn
        · have hk8e : k = 8 := by omega
          have hknb : (k : Int) < n := by omega
          have hk8i : (8 : Int) ≤ k := by omega
          clear hk8e hkn hlt
          go_wp2_with fail
          refine HHV.out.mono ?_
          rintro e u3 ⟨r, rfl, hr, hB3⟩
          have HB3 := Lib.hid (belowStep HBw.out hB3)
          have HR3 := Lib.hid hr
          have HTR3 := Lib.hid (HTR.out.via hB3)
          have HV3 := HV.out.via HB3.out
          obtain ⟨⟨ah, ch, rfl, _, _, _⟩, _⟩ := id hr
          obtain ⟨⟨a', c', he, _, _, hin⟩, _⟩ := HV3
          rw [← HNN.out] at he
          cases he
          have hx0 : 0 < x.length := by rw [← HNN.out]; exact hn0
          obtain ⟨g, o, rfl, c0, c1⟩ := hin.get hx0
          have hpi := (pt_ok HOK.out hx0).1
          rw [Nat.zero_mul, Nat.add_zero] at c0 c1
          have htd := tdiv_in hpi
          have HP3 := Lib.hid (fun (m : Int) (h : 0 < m) (h2 : m ≤ 1000) => pickR_w ((vx x 0).1.tdiv 41) m htd h h2 u3)
          have hq : IntKind.i64.wrap ((vx x 0).1.tdiv 41) = (vx x 0).1.tdiv 41 := IntWalk.i64_in _ htd
          clear hin hx0 hr hB3 HHV HHU HTR HV HPS
          have hbl := (baseP_val h0 h1 h2 x).hi
          generalize hulP (someP x low high) = hl at *
          obtain ⟨m, hm⟩ : ∃ m, m = hl.length := ⟨_, rfl⟩
          rw [← hm] at HBA HR3 ⊢
          generalize (vx x 0).1 = p1 at *
          generalize (vx x 0).2 = p2 at *
          by_cases h3 : 3 ≤ m
          · have h3' : (3 : Int) ≤ m := by omega
            rw [if_pos h3] at HBA
            rw [HBA.out, ← hm] at hbl
            obtain ⟨g2, o2, c2, he, _⟩ := at_some HR3.out (by omega)
            rw [← hm] at he
            cases he
            have HLV := HR3
            have HMM := Lib.hid hm
            clear hm
            have HP3m := Lib.hid (HP3.out m (by omega) (by omega))
            have hpk := pkN_in (c := p1.tdiv 41) (n := m) (by omega)
            obtain ⟨K, hK⟩ : ∃ K : Nat, pkN (p1.tdiv 41) m = K := ⟨(pkN (p1.tdiv 41) m).toNat, by omega⟩
            have HKK := Lib.hid hK
            rw [hK] at HP3m hpk
            have hKm : K < m := by omega
            have hKm' : (K : Int) < m := by omega
            clear hK
            go_wp2_with fail
            refine (HP3m.out).mono ?_
            rintro e u4 ⟨rfl, rfl⟩
            go_wp2_with fail
            refine (wpIn_wide (n := 5)).1 ?_
            refine wpIn_region_T (fun w' => Below u3.drew.heap.size u3.drew w') 8 (by kernel_rfl) ?_
            have hd : Below u3.heap.size u3 u3.drew := (Below.refl _ _).drew
            obtain ⟨hLe, hLc, hLc2, hcells⟩ := at_cells (HLV.out.via hd)
            have HLEN := Lib.hid hLe
            clear hLe
            have hK1 : K ≤ m := by omega
            have hK2 : K ≤ ch := by omega
            have hK3 : ¬ ch = K := by omega
            have HRES : Hid (madeP x low high = hl.drop K ++ hl.take K) := Lib.hid (by rw [HMD.out, HBA.out, ← HLEN.out, HTK.out, if_neg hn0', HKK.out]; rfl)
            have HBW := Lib.hid (belowStep HB3.out hd)
            generalize u3.drew = wd at *
            have HCE := Lib.hid hcells
            clear hcells
            refine wpT_tk 1 72 (v := ?_) (Below.refl _ _) rfl rfl (by rfl) (hy := fun w hw => ?_) (h := ?_)
            rotate_left
            · go_simp; with_reducible rfl
            try simp only [Act.put, List.setIfInBounds_toArray, List.set_cons_zero, List.set_cons_succ]
            refine wpT_tk 2 73 (v := ?_) (Below.refl _ _) rfl rfl (by rfl) (hy := fun w hw => ?_) (h := ?_)
            rotate_left
            · go_simp; with_reducible rfl
            try simp only [Act.put, List.setIfInBounds_toArray, List.set_cons_zero, List.set_cons_succ]
            refine wpT_tk 3 74 (v := ?_) (Below.refl _ _) rfl rfl (by rfl) (hy := fun w hw => ?_) (h := ?_)
            rotate_left
            · go_simp; with_reducible rfl
            try simp only [Act.put, List.setIfInBounds_toArray, List.set_cons_zero, List.set_cons_succ]
            refine wpT_tk 5 76 (v := ?_) (Below.refl _ _) rfl rfl (by rfl) (hy := fun w hw => ?_) (h := ?_)
            rotate_left
            · go_simp; with_reducible rfl
            try simp only [Act.put, List.setIfInBounds_toArray, List.set_cons_zero, List.set_cons_succ]
            refine wpT_tk 6 77 (v := ?_) (Below.refl _ _) rfl rfl (by rfl) (hy := fun w hw => ?_) (h := ?_)
            rotate_left
            · go_simp; with_reducible rfl
            try simp only [Act.put, List.setIfInBounds_toArray, List.set_cons_zero, List.set_cons_succ]
            refine wpT_tk 7 78 (v := ?_) (Below.refl _ _) rfl rfl (by rfl) (hy := fun w hw => ?_) (h := ?_)
            rotate_left
            · go_simp; with_reducible rfl
            try simp only [Act.put, List.setIfInBounds_toArray, List.set_cons_zero, List.set_cons_succ]
            refine wpT_one 0 rfl rfl (by kernel_rfl) ?_
            go_simp
            refine ⟨alloc_below _ _, ?_⟩
            refine wpT_one 4 rfl rfl (by kernel_rfl) ?_
            have HN4 := Lib.hid (news_in (w := wd.alloc (.cells #[] 26)) (g := g2) (o := o2 + K * 2) (l := hl.drop K) (fun j hj => by have hj2 := HCE.out (K + j) (by rw [List.length_drop] at hj; omega); rw [vx_drop, show o2 + K * 2 + j * 2 = o2 + (K + j) * 2 by omega]; exact ⟨keptBelow (alloc_below _ _) hj2.1, keptBelow (alloc_below _ _) hj2.2⟩))
            have HL4 := Lib.hid (show (cellsP (hl.drop K)).length = (m - K) * 2 by rw [cellsP_len, List.length_drop, ← HLEN.out])
            have HL8 := Lib.hid (show (cellsP (hl.take K)).length = K * 2 by rw [cellsP_len, List.length_take, ← HLEN.out]; omega)
            have HA4 := Lib.hid (app_ok (n := 0) (m := m - K) (by omega))
            have HA8 := Lib.hid (app_ok (n := 0 + (m - K)) (m := K) (by omega))
            have HEM := Lib.hid (empty_own wd)
            refine wpIn_append_own _ _ 23 rfl wd.heap.size 26 i0 (.agg #[.int .i64 0, .int .i64 0]) 2 16 Try.underlying23 HI.out HZ0.out HZ1.out HZ2.out rfl (by decide) _ 0 [] rfl HEM.out ⟨g2, o2 + K * 2, none⟩ (m - K) (ch - K) (cellsP (hl.drop K)) rfl HL4.out HN4.out (cellsP_one _) HA4.out.1 HA4.out.2 (by simp) ?_
            intro v4 w4 hown4 hgrow4
            have hB4 := (alloc_below wd (.cells #[] 26)).grown hgrow4 (by simp) (fun k hk => (own_lt HEM.out k hk).1)
            refine ⟨fun _ => hB4, ?_⟩
            refine wpT_one 8 rfl rfl (by kernel_rfl) ?_
            have HN8 := Lib.hid (news_in (w := w4) (g := g2) (o := o2) (l := hl.take K) (fun j hj => by rw [List.length_take] at hj; have hj2 := HCE.out j (by omega); rw [vx_take (by omega)]; exact ⟨keptBelow hB4 hj2.1, keptBelow hB4 hj2.2⟩))
            refine wpIn_append_own _ _ 23 rfl wd.heap.size 26 i0 (.agg #[.int .i64 0, .int .i64 0]) 2 16 Try.underlying23 HI.out HZ0.out HZ1.out HZ2.out rfl (by decide) _ (0 + (m - K)) _ rfl hown4 ⟨g2, o2, none⟩ K ch (cellsP (hl.take K)) rfl HL8.out HN8.out (cellsP_one _) HA8.out.1 HA8.out.2 hB4.size ?_
            intro v8 w8 hown8 hgrow8
            have hB8 := hB4.grown hgrow8 hB4.size (fun k hk => (own_lt hown4 k hk).1)
            rw [List.nil_append, ← cellsP_app, show 0 + (m - K) + K = (hl.drop K ++ hl.take K).length by rw [List.length_append, List.length_drop, List.length_take, ← HLEN.out]; omega, ← HRES.out] at hown8
            have HO8 := Lib.hid hown8
            have HB8 := Lib.hid (belowStep HBW.out hB8)
            clear hown4 hgrow4 hown8 hgrow8 hB4 hB8
            refine ⟨fun h => (by cases h), ?_⟩
            refine wpT_one 9 rfl rfl (by kernel_rfl) ?_
            go_simp
            refine wpT_done (by kernel_rfl) ?_ _
            go_wp2_with fail
            go_ret
            exact ⟨_, rfl, owns_at HO8.out (val_ok (madeP_val h0 h1 h2 x)), HB8.out⟩
          · have h3' : ((m : Nat) : Int) < 3 := by omega
            rw [if_neg h3] at HBA
            have HLV := HTR3
            clear hm
            have hbl : (3 : Nat) ≤ 8 := by omega
            have HP3m := Lib.hid (HP3.out (3 : Nat) (by omega) (by omega))
            have hpk := pkN_in (c := p1.tdiv 41) (n := (3 : Nat)) (by omega)
            obtain ⟨K, hK⟩ : ∃ K : Nat, pkN (p1.tdiv 41) (3 : Nat) = K := ⟨(pkN (p1.tdiv 41) (3 : Nat)).toNat, by omega⟩
            have HKK := Lib.hid hK
            rw [hK] at HP3m hpk
            have hKm : K < 3 := by omega
            have hKm' : (K : Int) < 3 := by omega
            clear hK
            go_wp2_with fail
            refine (HP3m.out).mono ?_
            rintro e u4 ⟨rfl, rfl⟩
            go_wp2_with fail
            refine (wpIn_wide (n := 5)).1 ?_
            refine wpIn_region_T (fun w' => Below u3.drew.heap.size u3.drew w') 8 (by kernel_rfl) ?_
            have hd : Below u3.heap.size u3 u3.drew := (Below.refl _ _).drew
            obtain ⟨hLe, hLc, hLc2, hcells⟩ := at_cells (HLV.out.via hd)
            have HLEN := Lib.hid hLe
            clear hLe
            have hK1 : K ≤ 3 := by omega
            have hK2 : K ≤ 3 := by omega
            have hK3 : ¬ 3 = K := by omega
            have HRES : Hid (madeP x low high = (triP low high).drop K ++ (triP low high).take K) := Lib.hid (by rw [HMD.out, HBA.out, ← HLEN.out, HTK.out, if_neg hn0', HKK.out]; rfl)
            have HBW := Lib.hid (belowStep HB3.out hd)
            have hK4 : (K : Int) ≤ 3 := by omega
            generalize u3.drew = wd at *
            have HCE := Lib.hid hcells
            clear hcells
            refine wpT_tk 1 72 (v := ?_) (Below.refl _ _) rfl rfl (by rfl) (hy := fun w hw => ?_) (h := ?_)
            rotate_left
            · go_simp; with_reducible rfl
            try simp only [Act.put, List.setIfInBounds_toArray, List.set_cons_zero, List.set_cons_succ]
            refine wpT_tk 2 73 (v := ?_) (Below.refl _ _) rfl rfl (by rfl) (hy := fun w hw => ?_) (h := ?_)
            rotate_left
            · go_simp; with_reducible rfl
            try simp only [Act.put, List.setIfInBounds_toArray, List.set_cons_zero, List.set_cons_succ]
            refine wpT_tk 3 74 (v := ?_) (Below.refl _ _) rfl rfl (by rfl) (hy := fun w hw => ?_) (h := ?_)
            rotate_left
            · go_simp; with_reducible rfl
            try simp only [Act.put, List.setIfInBounds_toArray, List.set_cons_zero, List.set_cons_succ]
            refine wpT_tk 5 76 (v := ?_) (Below.refl _ _) rfl rfl (by rfl) (hy := fun w hw => ?_) (h := ?_)
            rotate_left
            · go_simp; with_reducible rfl
            try simp only [Act.put, List.setIfInBounds_toArray, List.set_cons_zero, List.set_cons_succ]
            refine wpT_tk 6 77 (v := ?_) (Below.refl _ _) rfl rfl (by rfl) (hy := fun w hw => ?_) (h := ?_)
            rotate_left
            · go_simp; with_reducible rfl
            try simp only [Act.put, List.setIfInBounds_toArray, List.set_cons_zero, List.set_cons_succ]
            refine wpT_tk 7 78 (v := ?_) (Below.refl _ _) rfl rfl (by rfl) (hy := fun w hw => ?_) (h := ?_)
            rotate_left
            · go_simp; with_reducible rfl
            try simp only [Act.put, List.setIfInBounds_toArray, List.set_cons_zero, List.set_cons_succ]
            refine wpT_one 0 rfl rfl (by kernel_rfl) ?_
            go_simp
            refine ⟨alloc_below _ _, ?_⟩
            refine wpT_one 4 rfl rfl (by kernel_rfl) ?_
            have HN4 := Lib.hid (news_in (w := wd.alloc (.cells #[] 26)) (g := w.heap.size) (o := K * 2) (l := (triP low high).drop K) (fun j hj => by have hj2 := HCE.out (K + j) (by rw [List.length_drop] at hj; omega); rw [vx_drop, show K * 2 + j * 2 = 0 + (K + j) * 2 by omega]; exact ⟨keptBelow (alloc_below _ _) hj2.1, keptBelow (alloc_below _ _) hj2.2⟩))
            have HL4 := Lib.hid (show (cellsP ((triP low high).drop K)).length = (3 - K) * 2 by rw [cellsP_len, List.length_drop, ← HLEN.out])
            have HL8 := Lib.hid (show (cellsP ((triP low high).take K)).length = K * 2 by rw [cellsP_len, List.length_take, ← HLEN.out]; omega)
            have HA4 := Lib.hid (app_ok (n := 0) (m := 3 - K) (by omega))
            have HA8 := Lib.hid (app_ok (n := 0 + (3 - K)) (m := K) (by omega))
            have HEM := Lib.hid (empty_own wd)
            refine wpIn_append_own _ _ 23 rfl wd.heap.size 26 i0 (.agg #[.int .i64 0, .int .i64 0]) 2 16 Try.underlying23 HI.out HZ0.out HZ1.out HZ2.out rfl (by decide) _ 0 [] rfl HEM.out ⟨w.heap.size, K * 2, none⟩ (3 - K) (3 - K) (cellsP ((triP low high).drop K)) rfl HL4.out HN4.out (cellsP_one _) HA4.out.1 HA4.out.2 (by simp) ?_
            intro v4 w4 hown4 hgrow4
            have hB4 := (alloc_below wd (.cells #[] 26)).grown hgrow4 (by simp) (fun k hk => (own_lt HEM.out k hk).1)
            refine ⟨fun _ => hB4, ?_⟩
            refine wpT_one 8 rfl rfl (by kernel_rfl) ?_
            have HN8 := Lib.hid (news_in (w := w4) (g := w.heap.size) (o := 0) (l := (triP low high).take K) (fun j hj => by rw [List.length_take] at hj; have hj2 := HCE.out j (by omega); rw [vx_take (by omega)]; exact ⟨keptBelow hB4 hj2.1, keptBelow hB4 hj2.2⟩))
            refine wpIn_append_own _ _ 23 rfl wd.heap.size 26 i0 (.agg #[.int .i64 0, .int .i64 0]) 2 16 Try.underlying23 HI.out HZ0.out HZ1.out HZ2.out rfl (by decide) _ (0 + (3 - K)) _ rfl hown4 ⟨w.heap.size, 0, none⟩ K 3 (cellsP ((triP low high).take K)) rfl HL8.out HN8.out (cellsP_one _) HA8.out.1 HA8.out.2 hB4.size ?_
            intro v8 w8 hown8 hgrow8
            have hB8 := hB4.grown hgrow8 hB4.size (fun k hk => (own_lt hown4 k hk).1)
            rw [List.nil_append, ← cellsP_app, show 0 + (3 - K) + K = ((triP low high).drop K ++ (triP low high).take K).length by rw [List.length_append, List.length_drop, List.length_take, ← HLEN.out]; omega, ← HRES.out] at hown8
            have HO8 := Lib.hid hown8
            have HB8 := Lib.hid (belowStep HBW.out hB8)
            clear hown4 hgrow4 hown8 hgrow8 hB4 hB8
            refine ⟨fun h => (by cases h), ?_⟩
            refine wpT_one 9 rfl rfl (by kernel_rfl) ?_
            go_simp
            refine wpT_done (by kernel_rfl) ?_ _
            go_wp2_with fail
            go_ret
            exact ⟨_, rfl, owns_at HO8.out (val_ok (madeP_val h0 h1 h2 x)), HB8.out⟩
        · have hkne : (n : Int) ≤ k := by omega
          clear hkn hlt
          go_wp2_with fail
          refine HHV.out.mono ?_
          rintro e u3 ⟨r, rfl, hr, hB3⟩
          have HB3 := Lib.hid (belowStep HBw.out hB3)
          have HR3 := Lib.hid hr
          have HTR3 := Lib.hid (HTR.out.via hB3)
          have HV3 := HV.out.via HB3.out
          obtain ⟨⟨ah, ch, rfl, _, _, _⟩, _⟩ := id hr
          obtain ⟨⟨a', c', he, _, _, hin⟩, _⟩ := HV3
          rw [← HNN.out] at he
          cases he
          have hx0 : 0 < x.length := by rw [← HNN.out]; exact hn0
          obtain ⟨g, o, rfl, c0, c1⟩ := hin.get hx0
          have hpi := (pt_ok HOK.out hx0).1
          rw [Nat.zero_mul, Nat.add_zero] at c0 c1
          have htd := tdiv_in hpi
          have HP3 := Lib.hid (fun (m : Int) (h : 0 < m) (h2 : m ≤ 1000) => pickR_w ((vx x 0).1.tdiv 41) m htd h h2 u3)
          have hq : IntKind.i64.wrap ((vx x 0).1.tdiv 41) = (vx x 0).1.tdiv 41 := IntWalk.i64_in _ htd
          clear hin hx0 hr hB3 HHV HHU HTR HV HPS
          have hbl := (baseP_val h0 h1 h2 x).hi
          generalize hulP (someP x low high) = hl at *
          obtain ⟨m, hm⟩ : ∃ m, m = hl.length := ⟨_, rfl⟩
          rw [← hm] at HBA HR3 ⊢
          generalize (vx x 0).1 = p1 at *
          generalize (vx x 0).2 = p2 at *
          by_cases h3 : 3 ≤ m
          · have h3' : (3 : Int) ≤ m := by omega
            rw [if_pos h3] at HBA
            rw [HBA.out, ← hm] at hbl
            obtain ⟨g2, o2, c2, he, _⟩ := at_some HR3.out (by omega)
            rw [← hm] at he
            cases he
            have HLV := HR3
            have HMM := Lib.hid hm
            clear hm
            have HP3m := Lib.hid (HP3.out m (by omega) (by omega))
            have hpk := pkN_in (c := p1.tdiv 41) (n := m) (by omega)
            obtain ⟨K, hK⟩ : ∃ K : Nat, pkN (p1.tdiv 41) m = K := ⟨(pkN (p1.tdiv 41) m).toNat, by omega⟩
            have HKK := Lib.hid hK
            rw [hK] at HP3m hpk
            have hKm : K < m := by omega
            have hKm' : (K : Int) < m := by omega
            clear hK
            go_wp2_with fail
            refine (HP3m.out).mono ?_
            rintro e u4 ⟨rfl, rfl⟩
            go_wp2_with fail
            refine (wpIn_wide (n := 5)).1 ?_
            refine wpIn_region_T (fun w' => Below u3.drew.heap.size u3.drew w') 8 (by kernel_rfl) ?_
            have hd : Below u3.heap.size u3 u3.drew := (Below.refl _ _).drew
            obtain ⟨hLe, hLc, hLc2, hcells⟩ := at_cells (HLV.out.via hd)
            have HLEN := Lib.hid hLe
            clear hLe
            have hK1 : K ≤ m := by omega
            have hK2 : K ≤ ch := by omega
            have hK3 : ¬ ch = K := by omega
            have HRES : Hid (madeP x low high = hl.drop K ++ hl.take K) := Lib.hid (by rw [HMD.out, HBA.out, ← HLEN.out, HTK.out, if_neg hn0', HKK.out]; rfl)
            have HBW := Lib.hid (belowStep HB3.out hd)
            generalize u3.drew = wd at *
            have HCE := Lib.hid hcells
            clear hcells
            refine wpT_tk 1 72 (v := ?_) (Below.refl _ _) rfl rfl (by rfl) (hy := fun w hw => ?_) (h := ?_)
            rotate_left
            · go_simp; with_reducible rfl
            try simp only [Act.put, List.setIfInBounds_toArray, List.set_cons_zero, List.set_cons_succ]
            refine wpT_tk 2 73 (v := ?_) (Below.refl _ _) rfl rfl (by rfl) (hy := fun w hw => ?_) (h := ?_)
            rotate_left
            · go_simp; with_reducible rfl
            try simp only [Act.put, List.setIfInBounds_toArray, List.set_cons_zero, List.set_cons_succ]
            refine wpT_tk 3 74 (v := ?_) (Below.refl _ _) rfl rfl (by rfl) (hy := fun w hw => ?_) (h := ?_)
            rotate_left
            · go_simp; with_reducible rfl
            try simp only [Act.put, List.setIfInBounds_toArray, List.set_cons_zero, List.set_cons_succ]
            refine wpT_tk 5 76 (v := ?_) (Below.refl _ _) rfl rfl (by rfl) (hy := fun w hw => ?_) (h := ?_)
            rotate_left
            · go_simp; with_reducible rfl
            try simp only [Act.put, List.setIfInBounds_toArray, List.set_cons_zero, List.set_cons_succ]
            refine wpT_tk 6 77 (v := ?_) (Below.refl _ _) rfl rfl (by rfl) (hy := fun w hw => ?_) (h := ?_)
            rotate_left
            · go_simp; with_reducible rfl
            try simp only [Act.put, List.setIfInBounds_toArray, List.set_cons_zero, List.set_cons_succ]
            refine wpT_tk 7 78 (v := ?_) (Below.refl _ _) rfl rfl (by rfl) (hy := fun w hw => ?_) (h := ?_)
            rotate_left
            · go_simp; with_reducible rfl
            try simp only [Act.put, List.setIfInBounds_toArray, List.set_cons_zero, List.set_cons_succ]
            refine wpT_one 0 rfl rfl (by kernel_rfl) ?_
            go_simp
            refine ⟨alloc_below _ _, ?_⟩
            refine wpT_one 4 rfl rfl (by kernel_rfl) ?_
            have HN4 := Lib.hid (news_in (w := wd.alloc (.cells #[] 26)) (g := g2) (o := o2 + K * 2) (l := hl.drop K) (fun j hj => by have hj2 := HCE.out (K + j) (by rw [List.length_drop] at hj; omega); rw [vx_drop, show o2 + K * 2 + j * 2 = o2 + (K + j) * 2 by omega]; exact ⟨keptBelow (alloc_below _ _) hj2.1, keptBelow (alloc_below _ _) hj2.2⟩))
            have HL4 := Lib.hid (show (cellsP (hl.drop K)).length = (m - K) * 2 by rw [cellsP_len, List.length_drop, ← HLEN.out])
            have HL8 := Lib.hid (show (cellsP (hl.take K)).length = K * 2 by rw [cellsP_len, List.length_take, ← HLEN.out]; omega)
            have HA4 := Lib.hid (app_ok (n := 0) (m := m - K) (by omega))
            have HA8 := Lib.hid (app_ok (n := 0 + (m - K)) (m := K) (by omega))
            have HEM := Lib.hid (empty_own wd)
            refine wpIn_append_own _ _ 23 rfl wd.heap.size 26 i0 (.agg #[.int .i64 0, .int .i64 0]) 2 16 Try.underlying23 HI.out HZ0.out HZ1.out HZ2.out rfl (by decide) _ 0 [] rfl HEM.out ⟨g2, o2 + K * 2, none⟩ (m - K) (ch - K) (cellsP (hl.drop K)) rfl HL4.out HN4.out (cellsP_one _) HA4.out.1 HA4.out.2 (by simp) ?_
            intro v4 w4 hown4 hgrow4
            have hB4 := (alloc_below wd (.cells #[] 26)).grown hgrow4 (by simp) (fun k hk => (own_lt HEM.out k hk).1)
            refine ⟨fun _ => hB4, ?_⟩
            refine wpT_one 8 rfl rfl (by kernel_rfl) ?_
            have HN8 := Lib.hid (news_in (w := w4) (g := g2) (o := o2) (l := hl.take K) (fun j hj => by rw [List.length_take] at hj; have hj2 := HCE.out j (by omega); rw [vx_take (by omega)]; exact ⟨keptBelow hB4 hj2.1, keptBelow hB4 hj2.2⟩))
            refine wpIn_append_own _ _ 23 rfl wd.heap.size 26 i0 (.agg #[.int .i64 0, .int .i64 0]) 2 16 Try.underlying23 HI.out HZ0.out HZ1.out HZ2.out rfl (by decide) _ (0 + (m - K)) _ rfl hown4 ⟨g2, o2, none⟩ K ch (cellsP (hl.take K)) rfl HL8.out HN8.out (cellsP_one _) HA8.out.1 HA8.out.2 hB4.size ?_
            intro v8 w8 hown8 hgrow8
            have hB8 := hB4.grown hgrow8 hB4.size (fun k hk => (own_lt hown4 k hk).1)
            rw [List.nil_append, ← cellsP_app, show 0 + (m - K) + K = (hl.drop K ++ hl.take K).length by rw [List.length_append, List.length_drop, List.length_take, ← HLEN.out]; omega, ← HRES.out] at hown8
            have HO8 := Lib.hid hown8
            have HB8 := Lib.hid (belowStep HBW.out hB8)
            clear hown4 hgrow4 hown8 hgrow8 hB4 hB8
            refine ⟨fun h => (by cases h), ?_⟩
            refine wpT_one 9 rfl rfl (by kernel_rfl) ?_
            go_simp
            refine wpT_done (by kernel_rfl) ?_ _
            go_wp2_with fail
            go_ret
            exact ⟨_, rfl, owns_at HO8.out (val_ok (madeP_val h0 h1 h2 x)), HB8.out⟩
          · have h3' : ((m : Nat) : Int) < 3 := by omega
            rw [if_neg h3] at HBA
            have HLV := HTR3
            clear hm
            have hbl : (3 : Nat) ≤ 8 := by omega
            have HP3m := Lib.hid (HP3.out (3 : Nat) (by omega) (by omega))
            have hpk := pkN_in (c := p1.tdiv 41) (n := (3 : Nat)) (by omega)
            obtain ⟨K, hK⟩ : ∃ K : Nat, pkN (p1.tdiv 41) (3 : Nat) = K := ⟨(pkN (p1.tdiv 41) (3 : Nat)).toNat, by omega⟩
            have HKK := Lib.hid hK
            rw [hK] at HP3m hpk
            have hKm : K < 3 := by omega
            have hKm' : (K : Int) < 3 := by omega
            clear hK
            go_wp2_with fail
            refine (HP3m.out).mono ?_
            rintro e u4 ⟨rfl, rfl⟩
            go_wp2_with fail
            refine (wpIn_wide (n := 5)).1 ?_
            refine wpIn_region_T (fun w' => Below u3.drew.heap.size u3.drew w') 8 (by kernel_rfl) ?_
            have hd : Below u3.heap.size u3 u3.drew := (Below.refl _ _).drew
            obtain ⟨hLe, hLc, hLc2, hcells⟩ := at_cells (HLV.out.via hd)
            have HLEN := Lib.hid hLe
            clear hLe
            have hK1 : K ≤ 3 := by omega
            have hK2 : K ≤ 3 := by omega
            have hK3 : ¬ 3 = K := by omega
            have HRES : Hid (madeP x low high = (triP low high).drop K ++ (triP low high).take K) := Lib.hid (by rw [HMD.out, HBA.out, ← HLEN.out, HTK.out, if_neg hn0', HKK.out]; rfl)
            have HBW := Lib.hid (belowStep HB3.out hd)
            have hK4 : (K : Int) ≤ 3 := by omega
            generalize u3.drew = wd at *
            have HCE := Lib.hid hcells
            clear hcells
            refine wpT_tk 1 72 (v := ?_) (Below.refl _ _) rfl rfl (by rfl) (hy := fun w hw => ?_) (h := ?_)
            rotate_left
            · go_simp; with_reducible rfl
            try simp only [Act.put, List.setIfInBounds_toArray, List.set_cons_zero, List.set_cons_succ]
            refine wpT_tk 2 73 (v := ?_) (Below.refl _ _) rfl rfl (by rfl) (hy := fun w hw => ?_) (h := ?_)
            rotate_left
            · go_simp; with_reducible rfl
            try simp only [Act.put, List.setIfInBounds_toArray, List.set_cons_zero, List.set_cons_succ]
            refine wpT_tk 3 74 (v := ?_) (Below.refl _ _) rfl rfl (by rfl) (hy := fun w hw => ?_) (h := ?_)
            rotate_left
            · go_simp; with_reducible rfl
            try simp only [Act.put, List.setIfInBounds_toArray, List.set_cons_zero, List.set_cons_succ]
            refine wpT_tk 5 76 (v := ?_) (Below.refl _ _) rfl rfl (by rfl) (hy := fun w hw => ?_) (h := ?_)
            rotate_left
            · go_simp; with_reducible rfl
            try simp only [Act.put, List.setIfInBounds_toArray, List.set_cons_zero, List.set_cons_succ]
            refine wpT_tk 6 77 (v := ?_) (Below.refl _ _) rfl rfl (by rfl) (hy := fun w hw => ?_) (h := ?_)
            rotate_left
            · go_simp; with_reducible rfl
            try simp only [Act.put, List.setIfInBounds_toArray, List.set_cons_zero, List.set_cons_succ]
            refine wpT_tk 7 78 (v := ?_) (Below.refl _ _) rfl rfl (by rfl) (hy := fun w hw => ?_) (h := ?_)
            rotate_left
            · go_simp; with_reducible rfl
            try simp only [Act.put, List.setIfInBounds_toArray, List.set_cons_zero, List.set_cons_succ]
            refine wpT_one 0 rfl rfl (by kernel_rfl) ?_
            go_simp
            refine ⟨alloc_below _ _, ?_⟩
            refine wpT_one 4 rfl rfl (by kernel_rfl) ?_
            have HN4 := Lib.hid (news_in (w := wd.alloc (.cells #[] 26)) (g := w.heap.size) (o := K * 2) (l := (triP low high).drop K) (fun j hj => by have hj2 := HCE.out (K + j) (by rw [List.length_drop] at hj; omega); rw [vx_drop, show K * 2 + j * 2 = 0 + (K + j) * 2 by omega]; exact ⟨keptBelow (alloc_below _ _) hj2.1, keptBelow (alloc_below _ _) hj2.2⟩))
            have HL4 := Lib.hid (show (cellsP ((triP low high).drop K)).length = (3 - K) * 2 by rw [cellsP_len, List.length_drop, ← HLEN.out])
            have HL8 := Lib.hid (show (cellsP ((triP low high).take K)).length = K * 2 by rw [cellsP_len, List.length_take, ← HLEN.out]; omega)
            have HA4 := Lib.hid (app_ok (n := 0) (m := 3 - K) (by omega))
            have HA8 := Lib.hid (app_ok (n := 0 + (3 - K)) (m := K) (by omega))
            have HEM := Lib.hid (empty_own wd)
            refine wpIn_append_own _ _ 23 rfl wd.heap.size 26 i0 (.agg #[.int .i64 0, .int .i64 0]) 2 16 Try.underlying23 HI.out HZ0.out HZ1.out HZ2.out rfl (by decide) _ 0 [] rfl HEM.out ⟨w.heap.size, K * 2, none⟩ (3 - K) (3 - K) (cellsP ((triP low high).drop K)) rfl HL4.out HN4.out (cellsP_one _) HA4.out.1 HA4.out.2 (by simp) ?_
            intro v4 w4 hown4 hgrow4
            have hB4 := (alloc_below wd (.cells #[] 26)).grown hgrow4 (by simp) (fun k hk => (own_lt HEM.out k hk).1)
            refine ⟨fun _ => hB4, ?_⟩
            refine wpT_one 8 rfl rfl (by kernel_rfl) ?_
            have HN8 := Lib.hid (news_in (w := w4) (g := w.heap.size) (o := 0) (l := (triP low high).take K) (fun j hj => by rw [List.length_take] at hj; have hj2 := HCE.out j (by omega); rw [vx_take (by omega)]; exact ⟨keptBelow hB4 hj2.1, keptBelow hB4 hj2.2⟩))
            refine wpIn_append_own _ _ 23 rfl wd.heap.size 26 i0 (.agg #[.int .i64 0, .int .i64 0]) 2 16 Try.underlying23 HI.out HZ0.out HZ1.out HZ2.out rfl (by decide) _ (0 + (3 - K)) _ rfl hown4 ⟨w.heap.size, 0, none⟩ K 3 (cellsP ((triP low high).take K)) rfl HL8.out HN8.out (cellsP_one _) HA8.out.1 HA8.out.2 hB4.size ?_
            intro v8 w8 hown8 hgrow8
            have hB8 := hB4.grown hgrow8 hB4.size (fun k hk => (own_lt hown4 k hk).1)
            rw [List.nil_append, ← cellsP_app, show 0 + (3 - K) + K = ((triP low high).drop K ++ (triP low high).take K).length by rw [List.length_append, List.length_drop, List.length_take, ← HLEN.out]; omega, ← HRES.out] at hown8
            have HO8 := Lib.hid hown8
            have HB8 := Lib.hid (belowStep HBW.out hB8)
            clear hown4 hgrow4 hown8 hgrow8 hB4 hB8
            refine ⟨fun h => (by cases h), ?_⟩
            refine wpT_one 9 rfl rfl (by kernel_rfl) ?_
            go_simp
            refine wpT_done (by kernel_rfl) ?_ _
            go_wp2_with fail
            go_ret
            exact ⟨_, rfl, owns_at HO8.out (val_ok (madeP_val h0 h1 h2 x)), HB8.out⟩
end Go.Proofs.Ytliligehofjegaa
