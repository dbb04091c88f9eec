/- The reference's quotient of two lists of digits, and the copy without zeros in front. -/
import Derived.Test.YtggkbeppfpgkaaaGreatDoorIntRefPlus
namespace Go.Proofs.YtggkbeppfpgkaaaGreatDoor
open Go.RowKit Putlog

theorem dlen_lt {x k : Nat} (h : x < 10 ^ k) : (digsL 10 x).length ≤ k := (digsL_len (by decide) x k).2 h
theorem dlen_of {x k : Nat} (h : (digsL 10 x).length ≤ k) : x < 10 ^ k := (digsL_len (by decide) x k).1 h
theorem dlen_mono {x y k : Nat} (h : x ≤ y) (hy : (digsL 10 y).length ≤ k) : (digsL 10 x).length ≤ k := dlen_lt (Nat.lt_of_le_of_lt h (dlen_of hy))
theorem dlen_ten {x y k : Nat} (h : x < 10 * y) (hy : (digsL 10 y).length ≤ k) : (digsL 10 x).length ≤ k + 1 := dlen_lt (by have := dlen_of hy; rw [Nat.pow_succ]; omega)
theorem dlen_mul {x y j k : Nat} (hx : (digsL 10 x).length ≤ j) (hy : (digsL 10 y).length ≤ k) : (digsL 10 (x * y)).length ≤ j + k := dlen_lt (by rw [Nat.pow_add]; exact Nat.mul_lt_mul_of_lt_of_le (dlen_of hx) (Nat.le_of_lt (dlen_of hy)) (Nat.pow_pos (by decide)))
theorem dlen_add {x y k : Nat} (hx : (digsL 10 x).length ≤ k) (hy : (digsL 10 y).length ≤ k) : (digsL 10 (x + y)).length ≤ k + 1 := dlen_lt (by have := dlen_of hx; have := dlen_of hy; rw [Nat.pow_succ]; omega)
theorem rcmpN (x y : Nat) (hx : (digsL 10 x).length ≤ 5000) (hy : (digsL 10 y).length ≤ 5000) (u v : Value) (w : World) (hu : NumsAt w u (digsL 10 x)) (hv : NumsAt w v (digsL 10 y)) :
    Calls Tryz.prog 48 #[u, v] w fun e w' => e = .returned (.int .i64 (cmpI (x : Nat) (y : Nat))) ∧ Below w.heap.size w w' := by
  have h := rorder_any (digsL 10 x) (digsL 10 y) (digsL_dig (by decide) x) (digsL_dig (by decide) y) (digsL_norm (by decide) x) (digsL_norm (by decide) y) hx hy u v w hu hv
  rw [leV_digsL (by decide), leV_digsL (by decide)] at h
  exact h
theorem rplusN (x y : Nat) (hx : (digsL 10 x).length ≤ 5000) (hy : (digsL 10 y).length ≤ 5000) (u v : Value) (w : World) (hu : NumsAt w u (digsL 10 x)) (hv : NumsAt w v (digsL 10 y)) :
    Calls Tryz.prog 41 #[u, v] w fun e w' => (∃ r, e = .returned r ∧ NumsAt w' r (digsL 10 (x + y))) ∧ Below w.heap.size w w' := by
  have h := rplus_any (digsL 10 x) (digsL 10 y) (digsL_dig (by decide) x) (digsL_dig (by decide) y) (digsL_norm (by decide) x) (digsL_norm (by decide) y) hx hy u v w hu hv
  rw [leV_digsL (by decide), leV_digsL (by decide)] at h
  exact h
theorem rminusN (x y : Nat) (hx : (digsL 10 x).length ≤ 5000) (hle : y ≤ x) (u v : Value) (w : World) (hu : NumsAt w u (digsL 10 x)) (hv : NumsAt w v (digsL 10 y)) :
    Calls Tryz.prog 42 #[u, v] w fun e w' => (∃ r, e = .returned r ∧ NumsNew w' w.heap.size r (digsL 10 (x - y))) ∧ Below w.heap.size w w' := by
  have h := rminus_any (digsL 10 x) (digsL 10 y) (digsL_dig (by decide) x) (digsL_dig (by decide) y) (digsL_norm (by decide) y) hx (by rw [leV_digsL (by decide), leV_digsL (by decide)]; exact hle) u v w hu hv
  rw [leV_digsL (by decide), leV_digsL (by decide)] at h
  exact h
theorem rtimesN (x y : Nat) (hx : (digsL 10 x).length ≤ 5000) (hy : (digsL 10 y).length ≤ 5000) (u v : Value) (w : World) (hu : NumsAt w u (digsL 10 x)) (hv : NumsAt w v (digsL 10 y)) :
    Calls Tryz.prog 35 #[u, v] w fun e w' => (∃ r, e = .returned r ∧ NumsAt w' r (digsL 10 (x * y))) ∧ Below w.heap.size w w' := by
  have h := rtimes_any (digsL 10 x) (digsL 10 y) (digsL_dig (by decide) x) (digsL_dig (by decide) y) hx hy u v w hu hv
  rw [leV_digsL (by decide), leV_digsL (by decide)] at h
  exact h

theorem nums_add {w : World} {a : Option Addr} {l : List Nat} {c : Nat} (h : NumsAt w (.slice a l.length c) l) {o : Obj} : ∀ ad, a = some ad → ∀ j u, (i64l l)[j]? = some u → (w.alloc o).cell? (ad.add j) = some u := by
  intro ad he j u hj
  have hjl : j < l.length := by have := (List.getElem?_eq_some_iff.1 hj).1; simpa [i64l] using this
  obtain ⟨_, _, h3⟩ := h.addr
  obtain ⟨g, hg, hcell⟩ := h3 (by omega)
  rw [he] at hg
  obtain rfl := Option.some.inj hg
  rw [Addr.add_lit, Nat.zero_add]
  rw [i64l_get hjl] at hj
  obtain rfl := Option.some.inj hj
  exact cellA o (hcell j hjl)
theorem i64_one (l : List Nat) : ∀ u ∈ i64l l, u.oneCell' = true := by
  intro u hu
  obtain ⟨x, _, rfl⟩ := List.mem_map.1 hu
  rfl
theorem i64_len (l : List Nat) : (i64l l).length = l.length := by simp [i64l]
/-- append of a list of numbers, nil or not, to a slice that the call owns. -/
theorem wpList_append_nums {P : Program} {ops : Array Oper} {rest : List Oper} {o : Oper} {a : Act} {w : World} {Q : Exit → Act → World → Prop}
    (hg : o.guard = none) (s x : Operand) (t : TypeId) (hop : o.op = Op.call { callee := Callee.builtin Builtin.append, args := #[s, x], argTypes := #[t, t] })
    (base : Nat) (e : TypeId) (i : TypeInfo) (z : Value) (bytes : Nat) (h1 : P.underlying t = some (.slice e)) (h2 : P.info? e = some i) (h3 : i.zero = some z) (h4 : i.size = 1) (h5 : i.bytes = bytes) (h6 : z.cells.size = 1)
    (v : Value) (k : Nat) (xs : List Value) (hs : a.eval s = v) (hown : w.ownsRow base e 1 v k xs) (ad : Option Addr) (c : Nat) (l : List Nat) (hx : a.eval x = .slice ad l.length c)
    (hS : ∀ ad', ad = some ad' → ∀ j u, (i64l l)[j]? = some u → w.cell? (ad'.add j) = some u) (h0 : ad = none → l = []) (b1 : k + l.length ≤ maxLen) (b2 : (k + l.length) * bytes ≤ 140737488355328) (b3 : base ≤ w.heap.size)
    (h : ∀ v' w', w'.ownsRow base e 1 v' (k + l.length) (xs ++ i64l l) → w.grownBy w' v.ownBlock → wpList P ops Q rest (a.put o.dst v') w') : wpList P ops Q (o :: rest) a w :=
  wpList_plain hg fun K hK => by
    cases ad with
    | some ad =>
      have := step_append_own (ops := ops) (K := K) (Q := Q) (E := False) hg s x t hop base e i z 1 bytes h1 h2 h3 h4 h5 h6 (by decide) v k xs hs hown ad l.length c (i64l l) hx (by rw [i64_len, Nat.mul_one]) (hS ad rfl) (i64_one l) b1 b2 b3 (fun v' w' h7 h8 => hK _ _ (h v' w' h7 h8))
      rwa [if_pos (by simp [Region.wanted, hg])] at this
    | none =>
      obtain rfl := h0 rfl
      have hrun : (Builtin.append_ #[t, t] o.type #[v, .slice none 0 c]).run P w = .ok v w := by
        rcases hown.2 with ⟨rfl, rfl⟩ | ⟨g, cap, cur, rfl, _, _, hnc, _⟩
        · simp [Builtin.append_, run_underlying h1, sizeOf, typeInfo, h2, Builtin.lenOf, Builtin.firstCells]
        · simp [Builtin.append_, run_underlying h1, sizeOf, typeInfo, h2, Builtin.lenOf, Builtin.firstCells, hnc, storeCells]
      unfold Oper.wp
      simp [execOp, hop, resolve, invoke, builtin, hs, hx, hrun, Result.andThen]
      refine hK _ _ (h v w ?_ (World.grownBy.refl _ _))
      simpa [i64l] using hown
theorem lit_one (W : World) (x : Value) : (W.alloc (.cells #[x] 3)).ownsRow W.heap.size 3 1 (.slice (some ⟨W.heap.size, 0, none⟩) 1 1) 1 [x] :=
  ⟨by simp, .inr ⟨W.heap.size, 1, #[x], rfl, Nat.le_refl _, heap_alloc_new W _, Nat.le_refl _, by unfold maxLen; omega, by simp, by simp⟩⟩
theorem ColsAt.via {w w' : World} {base : Nat} {a : Option Addr} {C : List Int} (h : ColsAt w base a C) (hB : Below w.heap.size w w') : ColsAt w' base a C := by
  rcases h with h | ⟨g, h1, h2, h3⟩
  · exact .inl h
  · exact .inr ⟨g, h1, h2, h3.via hB⟩
theorem fresh_below {W w9 : World} {o : Obj} {n c : Nat} (hg : (W.alloc o).grownBy w9 (Value.slice (some ⟨W.heap.size, 0, none⟩) n c).ownBlock) : Below W.heap.size W w9 :=
  ((Below.refl _ W).alloc (Nat.le_refl _) _).grown hg (by simp) (by intro k hk; cases hk; exact Nat.le_refl _)
theorem nums_cons {W : World} {B d : Nat} {v : Value} {l : List Nat} (h : W.ownsRow B 3 1 v (1 + l.length) ([Value.int .i64 (d : Nat)] ++ i64l l)) : NumsAt W v (d :: l) := by
  refine NumsAt.of_owns (B := B) (t := 3) ?_
  rw [List.length_cons, Nat.add_comm]
  simpa [i64l] using h
def cellN (w : World) (b i : Nat) : Nat := ((w.cell? ⟨b, i, none⟩).map intOf).getD 0 |>.toNat
theorem cellN_of {w : World} {b i x : Nat} (h : w.cell? ⟨b, i, none⟩ = some (.int .i64 (x : Nat))) : cellN w b i = x := by simp [cellN, h, intOf]
set_option maxRecDepth 100000 in
set_option maxHeartbeats 4000000 in
theorem rdivided_any (A : List Nat) (y : Nat) (hA : DigB 10 A) (hy : 0 < y) (hlA : A.length ≤ 4000) (hlB : (digsL 10 y).length ≤ 4000) (u v : Value) (w : World) (hu : NumsAt w u A) (hv : NumsAt w v (digsL 10 y)) :
    Calls Tryz.prog 40 #[u, v] w fun e w' => (∃ r s, e = .returned (.tuple #[r, s]) ∧ NumsAt w' r (digsL 10 (leV 10 A / y)) ∧ NumsAt w' s (digsL 10 (leV 10 A % y))) ∧ Below w.heap.size w w' := by
  obtain ⟨i0, hi0, hz0, hz1, hz2⟩ := info_parts info_int
  have HI0 := Lib.hid hi0
  have HZ0 := Lib.hid hz0
  have HZ1 := Lib.hid hz1
  have HZ2 := Lib.hid hz2
  obtain ⟨a, ca, rfl, hva⟩ := nums_form hu
  have HV := Lib.hid hv
  obtain ⟨b, cb, rfl, _⟩ := nums_form hv
  obtain ⟨hra1, _, hva⟩ := hva.addr
  have HDA := Lib.hid hA
  have HVA := Lib.hid hva
  have HY := Lib.hid hy
  obtain ⟨K, hK, hyK⟩ : ∃ K, K ≤ 4000 ∧ y < 10 ^ K := ⟨_, hlB, dlen_of (Nat.le_refl _)⟩
  have HK := Lib.hid hK
  have HLB := Lib.hid hyK
  obtain ⟨n, hn⟩ : ∃ n, n = A.length := ⟨_, rfl⟩
  have hnb : (n : Int) ≤ 4000 := by omega
  rw [← hn] at hra1 ⊢
  have HN := Lib.hid hn
  clear hi0 hz0 hz1 hz2 hA hlA hlB hu hv hva hn hy hK hyK
  generalize (digsL 10 y).length = m at *
  go_enter Tryz.func40, Tryz.ntmps40
  go_wp2_with (at_make; go_must (refine wpList_make_full _ rfl _ _ 38 rfl w.heap.size 3 i0 (.int .i64 0) 1 Tryz.underlying38 HI0.out HZ0.out HZ1.out .i64 .i64 (n : Int) (n : Int) n rfl rfl (by omega) (by omega) (by rw [HZ2.out]; omega) (by unfold maxLen; omega) (Nat.le_refl _) ?_); intro w1 hown hgrow; have HC1 := Lib.hid (cols_made hown); have HB1 := Lib.hid (belowMade hgrow); clear hown hgrow)
  have HP0 : Hid (DivT A y n (List.replicate n 0) 0) := by show DivT _ _ _ _ _; rw [HN.out]; exact DivT.start A HY.out
  rw [ofN_zeros] at HC1
  go_loopw [7, 8] (fun r i wr => ∃ (k : Nat) (Q : List Nat) (R : Nat), k ≤ n ∧ i = .int .i64 ((k : Int) - 1) ∧ NumsAt wr r (digsL 10 R) ∧ DivT A y k Q R ∧ ColsAt wr w.heap.size (some ⟨w.heap.size, 0, none⟩) (ofN Q) ∧ Below w.heap.size w wr) (fun _ i _ => (1 + intOf i).toNat)
  case atStart => exact ⟨n, _, 0, Nat.le_refl _, rfl, by rw [digsL_zero]; exact ⟨none, 0, rfl, Nat.le_refl _, by omega, .inl ⟨rfl, rfl⟩⟩, HP0.out, HC1.out, HB1.out⟩
  case round =>
    obtain ⟨k, C, R, hk, rfl, hr, hP, hcols, hB⟩ := hrel
    have HR := Lib.hid hr
    have HP := Lib.hid hP
    have HCO := Lib.hid hcols
    have HB := Lib.hid hB
    obtain ⟨ra, rc, rfl, hr2⟩ := nums_form hr
    have hl1 : C.length = n := by rw [HN.out]; exact hP.1
    clear hP hcols hB
    rcases Nat.eq_zero_or_pos k with rfl | h0
    · have hE := HP.out.done
      have hnums := nums_cols HCO.out (c := n) (by omega) (by omega)
      have hT := rtrim_any C (by omega) _ wr hnums
      rw [hE.1, hl1] at hT
      have HT := Lib.hid hT
      have HRR : Hid (NumsAt wr (.slice ra (digsL 10 R).length rc) (digsL 10 (leV 10 A % y))) := by show NumsAt _ _ _; rw [← hE.2]; exact hr2
      clear hE hnums hT hl1 hr hr2
      generalize (digsL 10 R).length = lr at *
      go_wp2_with fail
      refine HT.out.mono ?_
      rintro e w2 ⟨r, rfl, hr, rfl⟩
      have HR2 := Lib.hid hr
      obtain ⟨_, _, rfl, _⟩ := hr
      go_wp2_with fail
      go_ret2
      exact ⟨⟨_, _, rfl, HR2.out, HRR.out⟩, HB.out⟩
    · obtain ⟨q, rfl⟩ : ∃ q, k = q + 1 := ⟨k - 1, by omega⟩
      have hqe : ((q + 1 : Nat) : Int) - 1 = q := by omega
      have hqn : (q : Int) < n := by omega
      rw [hqe]
      obtain ⟨ga, rfl, hca⟩ := HVA.out (by have := HN.out; omega)
      have hcx := keptBelow HB.out (hca q (by have := HN.out; omega))
      have hxa := dig_getD (by decide) HDA.out q
      have HI := Lib.hid (HP.out.open HDA.out (by have := HN.out; omega))
      have hRy : R < y := HP.out.2.2.2.2
      have HLR : Hid ((digsL 10 R).length ≤ 4000) := Nat.le_trans (dlen_lt (Nat.lt_trans hRy HLB.out)) HK.out
      have HNA := Lib.hid hr2
      have HTR : Hid (trimL (A.getD q 0 :: digsL 10 R) = digsL 10 (A.getD q 0 + 10 * R)) := digs_trim (DigB.cons hxa (digsL_dig (by decide) R)) (by rw [leV, leV_digsL (by decide)])
      have HNO : Hid (ra = none → digsL 10 R = []) := fun e => by
        subst e
        rcases Nat.eq_zero_or_pos (digsL 10 R).length with h | h
        · exact List.length_eq_zero_iff.1 h
        · obtain ⟨_, _, h3⟩ := hr2.addr
          obtain ⟨g, hg, _⟩ := h3 h
          cases hg
      clear hca hxa hRy hr hr2 hqe
      generalize A.getD q 0 = x at *
      generalize digsL 10 R = L at *
      go_wp2_with (at_builtin; refine wpList_append_nums rfl _ _ 38 rfl wr.heap.size 3 i0 (.int .i64 0) 8 Tryz.underlying38 HI0.out HZ0.out HZ1.out HZ2.out rfl _ 1 [.int .i64 (x : Nat)] (by rfl) (lit_one wr _) ra rc L (by rfl) (nums_add HNA.out) HNO.out (by have := HLR.out; unfold maxLen; omega) (by have := HLR.out; omega) (by simp) ?_; intro v2 w9 hown9 hgrow9)
      have HB9 := Lib.hid (fresh_below hgrow9)
      have HNC := Lib.hid (nums_cons hown9)
      clear hown9 hgrow9
      have hT := fun W h => rtrim_any (x :: L) (by have := HLR.out; rw [List.length_cons]; omega) v2 W h
      rw [HTR.out] at hT
      have HT := Lib.hid hT
      clear hT
      go_wp2_with fail
      refine (HT.out _ HNC.out).mono ?_
      rintro e w2 ⟨r2, rfl, hr2, rfl⟩
      have HR2 := Lib.hid hr2
      have HCO2 := Lib.hid (HCO.out.via HB9.out)
      have HB2 := Lib.hid (belowVia HB9.out HB.out)
      obtain ⟨_, _, rfl, _⟩ := hr2
      generalize x + 10 * R = R1 at *
      go_wp2_with fail
      go_loopw [7] (fun r wr => ∃ (Q : List Nat) (R : Nat), NumsAt wr r (digsL 10 R) ∧ DivI A y q Q R ∧ ColsAt wr w.heap.size (some ⟨w.heap.size, 0, none⟩) (ofN Q) ∧ Below w.heap.size w wr) (fun _ wr => 10 - cellN wr w.heap.size q)
      case atStart => exact ⟨_, _, HR2.out, HI.out, HCO2.out, HB2.out⟩
      case round =>
        clear HR2 HI HCO2 HB2 HT HB9 HNC HTR HNA
        obtain ⟨C3, R3, hr3, hI3, hcols3, hB3⟩ := hrel
        have HR3 := Lib.hid hr3
        have HI3 := Lib.hid hI3
        have HCO3 := Lib.hid hcols3
        have HB3 := Lib.hid hB3
        have hl3 : (digsL 10 R3).length ≤ K + 1 := dlen_lt (by have h1 := HLB.out; have h2 := hI3.2.2.2.2; rw [Nat.pow_succ]; omega)
        have hly : (digsL 10 y).length ≤ K := dlen_lt HLB.out
        obtain ⟨ra3, rc3, rfl, _⟩ := nums_form hr3
        obtain ⟨kk, hkk⟩ : ∃ kk, kk = cmpI (R3 : Nat) (y : Nat) := ⟨_, rfl⟩
        have hkb : -1 ≤ kk ∧ kk ≤ 1 := by rw [hkk]; unfold cmpI; split <;> (try split) <;> omega
        obtain ⟨hkb1, hkb2⟩ := hkb
        have hC := fun W h1 h2 => rcmpN R3 y (by have := HK.out; omega) (by have := HK.out; omega) (.slice ra3 (digsL 10 R3).length rc3) (.slice b m cb) W h1 h2
        rw [← hkk] at hC
        have HC := Lib.hid hC
        have HM := Lib.hid (fun (hle : y ≤ R3) W h1 h2 => rminusN R3 y (by have := HK.out; omega) hle (.slice ra3 (digsL 10 R3).length rc3) (.slice b m cb) W h1 h2)
        have HVW := Lib.hid (NumsAt.via HB3.out HV.out)
        clear hC hl3 hly hr3 hcols3 hB3
        by_cases hle : y ≤ R3
        · have hk0 : 0 ≤ kk := by rw [hkk]; unfold cmpI; split <;> (try split) <;> omega
          have hidx : q < (ofN C3).length := by rw [ofN_len]; have h1 := hI3.1; have := HN.out; omega
          have hd9 := hI3.digit hle
          have hd9' : ((C3.getD q 0 : Nat) : Int) < 9 := by omega
          have HST := Lib.hid (hI3.step (by have := HN.out; omega) hle)
          have HIX := Lib.hid hidx
          have HLE := Lib.hid hle
          clear hI3 hidx hd9 hkk hle
          generalize (digsL 10 R3).length = l3 at *
          go_wp2_with fail
          refine (HC.out _ HR3.out HVW.out).mono ?_
          rintro e w4 ⟨rfl, hB4⟩
          have HR4 := Lib.hid (NumsAt.via hB4 HR3.out)
          have HV4 := Lib.hid (NumsAt.via hB4 HVW.out)
          have HCO4 := Lib.hid (HCO3.out.via hB4)
          have HB4 := Lib.hid (belowVia hB4 HB3.out)
          clear hB4
          go_wp2_with fail
          refine (HM.out HLE.out _ HR4.out HV4.out).mono ?_
          rintro e w5 ⟨⟨r5, rfl, hr5⟩, hB5⟩
          have hco5 := HCO4.out.via hB5
          have HB5 := Lib.hid (belowVia hB5 HB4.out)
          obtain ⟨g, hg, hge, hrow⟩ := hco5.at HIX.out
          obtain rfl : w.heap.size = g := by cases hge; rfl
          obtain ⟨hcx5, hfx5⟩ := hrow q HIX.out
          have hrow2 := hrow.set q HIX.out ((C3.getD q 0 + 1 : Nat) : Int)
          rw [ofN_set] at hrow2
          rw [ofN_get] at hcx5
          have HRW := Lib.hid hrow2
          have HBE := Lib.hid (below_set HB5.out hg (i := q) (.int .i64 ((C3.getD q 0 + 1 : Nat) : Int)))
          have hq1 := (hrow2 q (by rw [ofN_len, List.length_set]; have := HIX.out; rwa [ofN_len] at this)).1
          have HIX2 : Hid (q < C3.length) := by show _ < _; have := HIX.out; rwa [ofN_len] at this
          rw [ofN_get, setN_get _ _ _ _ HIX2.out, if_pos rfl] at hq1
          have HME := Lib.hid (cellN_of hq1)
          have HRF : Hid (NumsAt (w5.setCell ⟨w.heap.size, q, none⟩ (.int .i64 ((C3.getD q 0 + 1 : Nat) : Int))) r5 (digsL 10 (R3 - y))) := by
            have hs : w.heap.size < w4.heap.size := by
              obtain ⟨g9, _, e9, hr9⟩ := HCO4.out.at HIX.out
              obtain rfl : w.heap.size = g9 := by cases e9; rfl
              exact lt_of_cell (hr9 q HIX.out).1
            exact hr5.set hs
          have HMW : Hid (cellN wr w.heap.size q = C3.getD q 0) := by
            obtain ⟨g, _, hge, hrow⟩ := HCO3.out.at HIX.out
            obtain rfl : w.heap.size = g := by cases hge; rfl
            have := (hrow q HIX.out).1
            rw [ofN_get] at this
            exact cellN_of this
          obtain ⟨_, _, rfl, _⟩ := hr5.1
          have hc1 : ((C3.getD q 0 + 1 : Nat) : Int) = ((C3.getD q 0 : Nat) : Int) + 1 := by omega
          rw [hc1] at HRW HBE HRF HME
          clear hB5 hco5 hge hrow hrow2 hq1 hc1
          generalize hd : C3.getD q 0 = d at *
          go_wp2_with fail
          go_roundw
          case rel => exact ⟨_, _, HRF.out, HST.out, .inr ⟨_, hg, rfl, HRW.out⟩, HBE.out⟩
          case measure => rw [HME.out, HMW.out]; omega
        · have hk0 : kk < 0 := by rw [hkk]; unfold cmpI; split <;> (try split) <;> omega
          have HDT := Lib.hid (hI3.close (by omega))
          clear hI3 hkk hle HM
          generalize (digsL 10 R3).length = l3 at *
          go_wp2_with fail
          refine (HC.out _ HR3.out HVW.out).mono ?_
          rintro e w4 ⟨rfl, hB4⟩
          have HR4 := Lib.hid (NumsAt.via hB4 HR3.out)
          have HCO4 := Lib.hid (HCO3.out.via hB4)
          have HB4 := Lib.hid (belowVia hB4 HB3.out)
          clear hB4
          go_wp2_with fail
          go_roundw
          case rel => exact ⟨q, _, _, by omega, by go_num, HR4.out, HDT.out, HCO4.out, HB4.out⟩
          case measure => simp [intOf]; omega
end Go.Proofs.YtggkbeppfpgkaaaGreatDoor
