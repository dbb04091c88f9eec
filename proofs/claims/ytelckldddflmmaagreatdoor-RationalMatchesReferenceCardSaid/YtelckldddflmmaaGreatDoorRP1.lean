/- Several texts of layers 3 and 4, one behind the other: RatRefT, RatCut, RatTextF. -/
import Derived.Test.YtelckldddflmmaaGreatDoorRM6
/- RatRefT: The reference's Print and Parse. -/
namespace Go.Proofs.YtelckldddflmmaaGreatDoor
open Go.RowKit Putlog

set_option maxRecDepth 100000 in
set_option maxHeartbeats 4000000 in
theorem rprint_q (x1 x2 : ByteArray) (hx1 : Sized x1) (hx2 : Sized x2) (W : World) :
    Calls Tryz.prog 30 #[.agg #[.string x1, .string x2]] W fun e w' => e = .returned (.string (printQ (readQ x1 x2))) ∧ Below W.heap.size W w' := by
  have HV := Lib.hid (fun W => rvalid_q x1 x2 hx1 hx2 W)
  obtain ⟨k0, k1, kb⟩ := cell_row2 W (.string x1) (.string x2) 23
  rcases readQ_isSome (n := x1) (d := x2) with h1 | ⟨q, h1, e1, e2, fq⟩
  · rw [h1] at HV ⊢
    have KB := Lib.hid kb
    clear hx1 hx2 h1 kb
    go_enter Tryz.func30, Tryz.ntmps30
    go_wp2_with fail
    generalize W.alloc (.cells #[.string x1, .string x2] 23) = w1 at *
    refine (HV.out w1).mono ?_
    rintro e w2 ⟨rfl, hB⟩
    have HB2 := Lib.hid (belowVia hB KB.out)
    clear hB
    go_wp2_with fail
    go_ret
    exact ⟨rfl, HB2.out⟩
  · rw [h1] at HV ⊢
    have s1 : (x1.size : Int) ≤ 201 := by rw [e1]; have := intT_size fq.1 (by decide); omega
    have s2 : (x2.size : Int) ≤ 201 := by rw [e2]; have := intT_size fq.2 (by decide); omega
    have s3 : (⟨#[47]⟩ : ByteArray).size = 1 := rfl
    have hd := den_one q
    have s4 : ((x1 ++ ⟨#[47]⟩ : ByteArray).size : Int) ≤ 202 := by rw [ByteArray.size_append]; omega
    rw [print_some, ← e1, ← e2]
    rw [← e2] at hd
    have KB := Lib.hid kb
    clear e1 e2 fq hx1 hx2 h1 kb
    by_cases c : q.den = 1
    · rw [if_pos c]
      rw [decide_eq_true c] at hd
      clear c
      go_enter Tryz.func30, Tryz.ntmps30
      go_wp2_with fail
      generalize W.alloc (.cells #[.string x1, .string x2] 23) = w1 at *
      refine (HV.out w1).mono ?_
      rintro e w2 ⟨rfl, hB⟩
      have k2 := keptBelow hB k0
      have k3 := keptBelow hB k1
      have HB2 := Lib.hid (belowVia hB KB.out)
      clear hB k0 k1
      go_wp2_with fail
      go_ret
      exact ⟨rfl, HB2.out⟩
    · rw [if_neg c]
      rw [decide_eq_false c] at hd
      clear c
      go_enter Tryz.func30, Tryz.ntmps30
      go_wp2_with fail
      generalize W.alloc (.cells #[.string x1, .string x2] 23) = w1 at *
      refine (HV.out w1).mono ?_
      rintro e w2 ⟨rfl, hB⟩
      have k2 := keptBelow hB k0
      have k3 := keptBelow hB k1
      have HB2 := Lib.hid (belowVia hB KB.out)
      clear hB k0 k1
      go_wp2_with fail
      go_ret
      exact ⟨rfl, HB2.out⟩
theorem index_at {c : UInt8} : ∀ {l : List UInt8} {k : Nat} (h : k < l.length), l[k] = c → (∀ j (hj : j < l.length), j < k → l[j] ≠ c) → Lib.indexByte l c = k
  | [], k, h, _, _ => absurd h (by simp)
  | b :: l, 0, h, e, _ => by
    have e : b = c := e
    unfold Lib.indexByte; rw [if_pos (by rw [e]; simp)]; try rfl
  | b :: l, k + 1, h, e, hn => by
    have hb : b ≠ c := hn 0 (by simp) (by omega)
    have ih := index_at (l := l) (k := k) (by simpa using h) (by simpa using e) (fun j hj hjk => by have := hn (j + 1) (by simpa using hj) (by omega); simpa using this)
    unfold Lib.indexByte
    rw [if_neg (by simpa using hb), ih, if_neg (by simp <;> omega)]
    omega
theorem index_none {c : UInt8} : ∀ {l : List UInt8}, (∀ j (hj : j < l.length), l[j] ≠ c) → Lib.indexByte l c = -1
  | [], _ => rfl
  | b :: l, hn => by
    have hb : b ≠ c := hn 0 (by simp)
    have ih := index_none (l := l) (fun j hj => by have := hn (j + 1) (by simpa using hj); simpa using this)
    unfold Lib.indexByte
    rw [if_neg (by simpa using hb), ih]; try rfl
theorem rparse_form {s : ByteArray} (hv : (readQ (partsS s).1 (partsS s).2).isSome = true) (h : printQ (readQ (partsS s).1 (partsS s).2) = s) : (partsS s).1 = numB (parseQ s) ∧ (partsS s).2 = denB (parseQ s) ∧ errQ (parseQ s) = 0 := by
  unfold parseQ
  rw [if_pos h]
  rcases readQ_isSome (n := (partsS s).1) (d := (partsS s).2) with e | ⟨q, e, e1, e2, _⟩
  · rw [e] at hv; cases hv
  · rw [e]; exact ⟨e1, e2, rfl⟩
theorem parse_inval {s : ByteArray} (hv : (readQ (partsS s).1 (partsS s).2).isSome = false) : parseQ s = none := by
  unfold parseQ
  split
  · cases e : readQ (partsS s).1 (partsS s).2 with
    | none => rfl
    | some q => rw [e] at hv; cases hv
  · rfl
set_option maxRecDepth 100000 in
set_option maxHeartbeats 8000000 in
theorem rparse_q (s : ByteArray) (hs : Sized s) (W : World) : Calls Tryz.prog 31 #[.string s] W (GivesQ (parseQ s) W) := by
  obtain ⟨z1, z2⟩ := sized_parts hs
  have HV := Lib.hid (fun W => rvalid_q (partsS s).1 (partsS s).2 z1 z2 W)
  have HP := Lib.hid (fun W => rprint_q (partsS s).1 (partsS s).2 z1 z2 W)
  have hpr := str_eq (printQ (readQ (partsS s).1 (partsS s).2)) s
  have PF := Lib.hid (fun hv h => rparse_form (s := s) hv h)
  have PN := Lib.hid (fun h => parse_no (s := s) h)
  have PV := Lib.hid (fun h => parse_inval (s := s) h)
  have HBL := Lib.hid (ba_list s)
  have P1 : Hid ((∀ j (hj : j < s.data.toList.length), s.data.toList[j] ≠ 47) → (partsS s).1 = s ∧ (partsS s).2 = ⟨#[49]⟩) := fun h => by
    unfold partsS; rw [index_none h, if_neg (by decide)]; exact ⟨rfl, rfl⟩
  have P2 : Hid (∀ k (h : k < s.data.toList.length), s.data.toList[k] = 47 → (∀ j (hj : j < s.data.toList.length), j < k → s.data.toList[j] ≠ 47) → (partsS s).1 = s.extract 0 k ∧ (partsS s).2 = s.extract (k + 1) s.size) := fun k h h1 h2 => by
    unfold partsS; rw [index_at h h1 h2, if_pos (by omega)]; exact ⟨rfl, rfl⟩
  obtain ⟨o, ho⟩ : ∃ o, o = parseQ s := ⟨_, rfl⟩
  rw [← ho] at PF PN PV ⊢
  clear ho z1 z2
  generalize printQ (readQ (partsS s).1 (partsS s).2) = t at *
  generalize (readQ (partsS s).1 (partsS s).2).isSome = vb at *
  generalize (partsS s).1 = x at *
  generalize (partsS s).2 = y at *
  have hsz : (s.size : Int) ≤ 9223372036854775807 := hs
  have HPR := Lib.hid hpr
  clear hs hpr
  go_enter Tryz.func31, Tryz.ntmps31
  go_wp2_with fail
  have hr1 : ((W.alloc (.cells #[.string ⟨#[]⟩, .string ⟨#[]⟩] 23)).alloc (.cells #[.string s, .string ⟨#[49]⟩] 23)).heap[W.heap.size + 1]? = some (.cells #[.string s, .string ⟨#[49]⟩] 23 (0, 0)) := by
    have h := heap_alloc_new (W.alloc (.cells #[.string ⟨#[]⟩, .string ⟨#[]⟩] 23)) (.cells #[.string s, .string ⟨#[49]⟩] 23)
    rwa [show (W.alloc (.cells #[.string ⟨#[]⟩, .string ⟨#[]⟩] 23)).heap.size = W.heap.size + 1 by simp] at h
  have HR : Hid (ResBox W.heap.size ((W.alloc (.cells #[.string ⟨#[]⟩, .string ⟨#[]⟩] 23)).alloc (.cells #[.string s, .string ⟨#[49]⟩] 23))) := ⟨heap_below (alloc_below _ _) (heap_alloc_new W _)⟩
  have HB : Hid (Below W.heap.size W ((W.alloc (.cells #[.string ⟨#[]⟩, .string ⟨#[]⟩] 23)).alloc (.cells #[.string s, .string ⟨#[49]⟩] 23))) := belowVia (alloc_below _ _) (alloc_below _ _)
  have HX := Lib.hid hr1
  clear hr1
  generalize (W.alloc (.cells #[.string ⟨#[]⟩, .string ⟨#[]⟩] 23)).alloc (.cells #[.string s, .string ⟨#[49]⟩] 23) = w1 at *
  go_loopw [5] (fun i wr => ∃ k : Nat, k ≤ s.size ∧ i = .int .i64 k ∧ wr = w1 ∧ ∀ j (h : j < s.data.toList.length), j < k → s.data.toList[j]'h ≠ 47) (fun i _ => s.size - (intOf i).toNat)
  case atStart => exact ⟨0, by omega, rfl, rfl, fun j _ h => by omega⟩
  case round =>
    obtain ⟨k, hk, rfl, rfl, hno⟩ := hrel
    have HNO := Lib.hid hno
    clear hno
    by_cases hlt : k < s.size
    · have hlt' : (k : Int) < s.size := by omega
      obtain ⟨h2, h3⟩ := HBL.out.2 k hlt
      by_cases hc : s[k] = 47
      · have hcb : (((s[k]).toNat : Int) == 47) = true := by rw [hc]; rfl
        have HXY := Lib.hid (P2.out k h2 (by rw [← h3]; exact hc) HNO.out)
        have hw : IntKind.i64.wrap ((k : Int) + 1) = ((k + 1 : Nat) : Int) := by rw [IntKind.wrap_i64]; omega
        have hk1 : ((k + 1 : Nat) : Int) ≤ s.size := by omega
        have hk2 : k + 1 ≤ s.size := by omega
        clear hc h3
        obtain ⟨m0, m1⟩ := cell2 HX.out
        obtain ⟨m2, m3⟩ := cell2b HX.out
        go_wp2_with fail
        obtain ⟨e1, e2⟩ := HXY.out
        subst e1 e2
        go_region
        have hb1 : Below W.heap.size W (((wr.setCell ⟨W.heap.size + 1, 0, none⟩ (.string (s.extract 0 k))).setCell ⟨W.heap.size + 1, 1, none⟩ (.string (s.extract (k + 1) s.size))).drew) := (below_set2 HB.out (Nat.le_succ _) _ _).drew
        have hx1 : (((wr.setCell ⟨W.heap.size + 1, 0, none⟩ (.string (s.extract 0 k))).setCell ⟨W.heap.size + 1, 1, none⟩ (.string (s.extract (k + 1) s.size))).drew).heap[W.heap.size + 1]? = some (.cells #[.string (s.extract 0 k), .string (s.extract (k + 1) s.size)] 23 (0, 0)) := want_setO HX.out (.string (s.extract 0 k)) (.string (s.extract (k + 1) s.size))
        have hr1 : ResBox W.heap.size (((wr.setCell ⟨W.heap.size + 1, 0, none⟩ (.string (s.extract 0 k))).setCell ⟨W.heap.size + 1, 1, none⟩ (.string (s.extract (k + 1) s.size))).drew) := ⟨(heap_setCell_other _ ⟨W.heap.size + 1, 1, none⟩ _ (.string (s.extract (k + 1) s.size)) (by show W.heap.size ≠ W.heap.size + 1; omega)).trans ((heap_setCell_other _ ⟨W.heap.size + 1, 0, none⟩ _ (.string (s.extract 0 k)) (by show W.heap.size ≠ W.heap.size + 1; omega)).trans HR.out.heap)⟩
        have HB' := Lib.hid hb1
        have HX' := Lib.hid hx1
        have HR' := Lib.hid hr1
        clear hb1 hx1 hr1 m0 m1 m2 m3 P1 P2 HXY HNO
        generalize ((wr.setCell ⟨W.heap.size + 1, 0, none⟩ (.string (s.extract 0 k))).setCell ⟨W.heap.size + 1, 1, none⟩ (.string (s.extract (k + 1) s.size))).drew = wy at *
        obtain ⟨k0, _⟩ := cell2 HX'.out
        obtain ⟨k1, _⟩ := cell2b HX'.out
        go_wp2_with fail
        refine (HV.out _).mono ?_
        rintro e w2 ⟨rfl, hB⟩
        have HR2 : Hid (ResBox W.heap.size w2) := ⟨heap_below hB HR'.out.heap⟩
        have HX2 := Lib.hid (heap_below hB HX'.out)
        have HB2 := Lib.hid (belowVia hB HB'.out)
        clear hB k0 k1
        obtain ⟨k0, _⟩ := cell2 HX2.out
        obtain ⟨k1, _⟩ := cell2b HX2.out
        cases vb with
        | false =>
          have HN := Lib.hid (PV.out rfl)
          obtain ⟨q1, f1⟩ := cell2 HR2.out.heap
          obtain ⟨q2, f2⟩ := cell2b HR2.out.heap
          go_wp2_with fail
          refine bodyPost_ret (results_qe rfl _ _ W.heap.size _ _ rfl (HR2.out.set _ _)) rfl ?_
          exact ⟨by rw [HN.out]; rfl, below_set2 HB2.out (Nat.le_refl _) _ _⟩
        | true =>
          go_wp2_with fail
          refine (HP.out _).mono ?_
          rintro e w4 ⟨rfl, hB⟩
          have k2 := keptBelow hB k0
          have k3 := keptBelow hB k1
          have HR4 : Hid (ResBox W.heap.size w4) := ⟨heap_below hB HR2.out.heap⟩
          have HB4 := Lib.hid (belowVia hB HB2.out)
          obtain ⟨q1, f1⟩ := cell2 HR4.out.heap
          obtain ⟨q2, f2⟩ := cell2b HR4.out.heap
          clear hB k0 k1
          have hpr := HPR.out
          by_cases c1 : t = s
          · rw [decide_eq_true c1] at hpr
            have HA := Lib.hid (PF.out (by trivial) c1)
            clear c1
            go_wp2_with fail
            refine bodyPost_ret (results_qe rfl _ _ W.heap.size _ _ rfl (HR4.out.set _ _)) rfl ?_
            obtain ⟨a1, a2, a3⟩ := HA.out
            exact ⟨by rw [← a1, ← a2, a3]; rfl, below_set2 HB4.out (Nat.le_refl _) _ _⟩
          · rw [decide_eq_false c1] at hpr
            have HN := Lib.hid (PN.out c1)
            clear c1
            go_wp2_with fail
            refine bodyPost_ret (results_qe rfl _ _ W.heap.size _ _ rfl (HR4.out.set _ _)) rfl ?_
            exact ⟨by rw [HN.out]; rfl, below_set2 HB4.out (Nat.le_refl _) _ _⟩
      · have hcb : (((s[k]).toNat : Int) == 47) = false := by
          rw [beq_eq_false_iff_ne]
          intro e
          exact hc (UInt8.toNat_inj.1 (by show (s[k]).toNat = 47; omega))
        have HN : Hid (∀ j (h : j < s.data.toList.length), j < k + 1 → s.data.toList[j]'h ≠ 47) := fun j h hj => by
          rcases Nat.lt_or_ge j k with h4 | h4
          · exact HNO.out j h h4
          · have : j = k := by omega
            subst this
            rw [← h3]; exact hc
        clear hc h3
        go_wp2_with fail
        go_roundw
        case rel => exact ⟨k + 1, by omega, by go_num, by trivial, HN.out⟩
        case measure => simp [intOf]; omega
    · obtain rfl : k = s.size := by omega
      obtain ⟨e1, e2⟩ := P1.out (fun j hj => HNO.out j hj (by rw [← HBL.out.1]; exact hj))
      replace e1 := e1.symm
      subst e1 e2
      clear P1 P2 HNO
      obtain ⟨k0, _⟩ := cell2 HX.out
      obtain ⟨k1, _⟩ := cell2b HX.out
      go_wp2_with fail
      refine (HV.out _).mono ?_
      rintro e w2 ⟨rfl, hB⟩
      have HR2 : Hid (ResBox W.heap.size w2) := ⟨heap_below hB HR.out.heap⟩
      have HX2 := Lib.hid (heap_below hB HX.out)
      have HB2 := Lib.hid (belowVia hB HB.out)
      clear hB k0 k1
      obtain ⟨k0, _⟩ := cell2 HX2.out
      obtain ⟨k1, _⟩ := cell2b HX2.out
      cases vb with
      | false =>
        have HN := Lib.hid (PV.out rfl)
        obtain ⟨q1, f1⟩ := cell2 HR2.out.heap
        obtain ⟨q2, f2⟩ := cell2b HR2.out.heap
        go_wp2_with fail
        refine bodyPost_ret (results_qe rfl _ _ W.heap.size _ _ rfl (HR2.out.set _ _)) rfl ?_
        exact ⟨by rw [HN.out]; rfl, below_set2 HB2.out (Nat.le_refl _) _ _⟩
      | true =>
        go_wp2_with fail
        refine (HP.out _).mono ?_
        rintro e w4 ⟨rfl, hB⟩
        have k2 := keptBelow hB k0
        have k3 := keptBelow hB k1
        have HR4 : Hid (ResBox W.heap.size w4) := ⟨heap_below hB HR2.out.heap⟩
        have HB4 := Lib.hid (belowVia hB HB2.out)
        obtain ⟨q1, f1⟩ := cell2 HR4.out.heap
        obtain ⟨q2, f2⟩ := cell2b HR4.out.heap
        clear hB k0 k1
        have hpr := HPR.out
        by_cases c1 : t = s
        · rw [decide_eq_true c1] at hpr
          have HA := Lib.hid (PF.out (by trivial) c1)
          clear c1
          go_wp2_with fail
          refine bodyPost_ret (results_qe rfl _ _ W.heap.size _ _ rfl (HR4.out.set _ _)) rfl ?_
          obtain ⟨a1, a2, a3⟩ := HA.out
          exact ⟨by rw [← a1, ← a2, a3]; rfl, below_set2 HB4.out (Nat.le_refl _) _ _⟩
        · rw [decide_eq_false c1] at hpr
          have HN := Lib.hid (PN.out c1)
          clear c1
          go_wp2_with fail
          refine bodyPost_ret (results_qe rfl _ _ W.heap.size _ _ rfl (HR4.out.set _ _)) rfl ?_
          exact ⟨by rw [HN.out]; rfl, below_set2 HB4.out (Nat.le_refl _) _ _⟩
end Go.Proofs.YtelckldddflmmaaGreatDoor
/- RatCut: The law's own helper cut: a fraction's texts, cut to 210 bytes. -/
namespace Go.Proofs.YtelckldddflmmaaGreatDoor
open Go.RowKit Putlog

/-- A text cut to so many bytes. -/
def cutB (n : Nat) (s : ByteArray) : ByteArray := s.extract 0 (min s.size n)
theorem cutB_sized (n : Nat) (hn : (n : Int) ≤ 1000) (s : ByteArray) : Sized (cutB n s) := by unfold Sized cutB; rw [ByteArray.size_extract]; omega
set_option maxRecDepth 100000 in
set_option maxHeartbeats 4000000 in
theorem lcut_q (x y : ByteArray) (hx : Sized x) (hy : Sized y) (W : World) :
    Calls Tryz.prog 7 #[.agg #[.string x, .string y]] W fun e w' => e = .returned (.agg #[.string (cutB 210 x), .string (cutB 210 y)]) ∧ Below W.heap.size W w' := by
  unfold cutB
  unfold Sized at hx hy
  obtain ⟨m, hm⟩ : ∃ m : Nat, m = min x.size 210 := ⟨_, rfl⟩
  obtain ⟨n, hn⟩ : ∃ n : Nat, n = min y.size 210 := ⟨_, rfl⟩
  have a1 : min (x.size : Int) 210 = (m : Int) := by omega
  have a2 : (if (210 : Int) < (x.size : Int) then (210 : Int) else (x.size : Int)) = (m : Int) := by split <;> omega
  have a3 : (m : Int) ≤ x.size := by omega
  have a4 : m ≤ x.size := by omega
  have b1 : min (y.size : Int) 210 = (n : Int) := by omega
  have b2 : (if (210 : Int) < (y.size : Int) then (210 : Int) else (y.size : Int)) = (n : Int) := by split <;> omega
  have b3 : (n : Int) ≤ y.size := by omega
  have b4 : n ≤ y.size := by omega
  have a5 : min x.size 210 = m := hm.symm
  have b5 : min y.size 210 = n := hn.symm
  rw [← hm, ← hn]
  clear hm hn
  go_enter Tryz.func7, Tryz.ntmps7
  go_wp2_with fail
  obtain ⟨k0, k1, kb⟩ := cell_row2 W (.string x) (.string y) 23
  have hs : (W.alloc (.cells #[.string x, .string y] 23)).heap.size = W.heap.size + 1 := by simp
  have hB := alloc_below (W.alloc (.cells #[.string x, .string y] 23)) (.cells #[.string ⟨#[]⟩, .string ⟨#[]⟩] 23)
  have HR := heap_alloc_new (W.alloc (.cells #[.string x, .string y] 23)) (.cells #[.string ⟨#[]⟩, .string ⟨#[]⟩] 23)
  rw [hs] at HR
  have k0 := keptBelow hB k0
  have k1 := keptBelow hB k1
  have HB := Lib.hid (belowVia hB kb)
  have HR := Lib.hid HR
  clear hB kb hs
  generalize (W.alloc (.cells #[.string x, .string y] 23)).alloc (.cells #[.string ⟨#[]⟩, .string ⟨#[]⟩] 23) = w1 at *
  obtain ⟨m0, m1⟩ := cell2 HR.out
  obtain ⟨m2, m3⟩ := cell2b HR.out
  go_region
  go_wp2_with fail
  have hz := want_setO HR.out (.string (x.extract 0 m)) (.string (y.extract 0 n))
  refine bodyPost_ret (results_q rfl _ _ (W.heap.size + 1) _ _ rfl hz) rfl ?_
  exact ⟨rfl, (below_set2 HB.out (Nat.le_succ _) _ _).drew⟩
end Go.Proofs.YtelckldddflmmaaGreatDoor
/- RatTextF: Plain facts for RationalTextMatchesReference: a fraction is parsed from its text. -/
namespace Go.Proofs.YtelckldddflmmaaGreatDoor
open Go.RowKit Putlog

theorem natT_noslash (n : Nat) : ∀ c ∈ natT n, c ≠ 47 := fun c hc e => by
  have h := natT_dig n c hc
  rw [e] at h
  exact absurd h (by unfold IsDig; decide)
theorem intT_noslash (z : Int) : ∀ c ∈ intT z, c ≠ 47 := fun c hc => by
  unfold intT at hc
  split at hc
  · rcases List.mem_cons.1 hc with e | h
    · rw [e]; decide
    · exact natT_noslash _ c h
  · exact natT_noslash _ c hc
theorem slash_list (a b : Int) : (intB a ++ ⟨#[47]⟩ ++ intB b).data.toList = intT a ++ 47 :: intT b := by
  rw [ByteArray.data_append, ByteArray.data_append, Array.toList_append, Array.toList_append, intB_toList, intB_toList]; simp
theorem slash_parts (a b : Int) : (intB a ++ ⟨#[47]⟩ ++ intB b).extract 0 (intT a).length = intB a ∧ (intB a ++ ⟨#[47]⟩ ++ intB b).extract ((intT a).length + 1) (intB a ++ ⟨#[47]⟩ ++ intB b).size = intB b := by
  have hs : (intB a ++ ⟨#[47]⟩ ++ intB b).size = (intT a).length + 1 + (intT b).length := by
    rw [← (ba_list _).1, slash_list]; simp; omega
  refine ⟨?_, ?_⟩
  · apply ByteArray.ext
    apply Array.toList_inj.1
    rw [ByteArray.data_extract, Array.toList_extract, slash_list, intB_toList, List.extract_eq_take_drop]
    simp
  · apply ByteArray.ext
    apply Array.toList_inj.1
    rw [ByteArray.data_extract, Array.toList_extract, slash_list, intB_toList, List.extract_eq_take_drop, hs]
    have e : (intT a ++ 47 :: intT b).drop ((intT a).length + 1) = intT b := by
      rw [← List.drop_drop, List.drop_left]; rfl
    rw [e]
    exact List.take_of_length_le (by omega)
theorem parts_print {q : Rat} (h : FitsQ q) : partsS (printQ (some q)) = (intB q.num, intB q.den) := by
  rw [print_some]
  by_cases c : q.den = 1
  · rw [if_pos c]
    unfold partsS
    rw [intB_toList, index_none (fun j hj => intT_noslash _ _ (List.getElem_mem hj)), if_neg (by decide), c]
    rw [show intB ((1 : Nat) : Int) = ⟨#[49]⟩ from intB_one]
  · rw [if_neg c]
    unfold partsS
    have hi : Lib.indexByte (intT q.num ++ 47 :: intT q.den) 47 = ((intT q.num).length : Int) := by
      refine index_at (by simp) (by simp) (fun j hj hjk => ?_)
      rw [List.getElem_append_left hjk]
      exact intT_noslash _ _ (List.getElem_mem hjk)
    rw [slash_list, hi, if_pos (by omega), Int.toNat_natCast, (slash_parts _ _).1, (slash_parts _ _).2]
theorem parse_print {q : Rat} (h : FitsQ q) : parseQ (printQ (some q)) = some q := by
  unfold parseQ
  rw [parts_print h]
  dsimp only
  rw [readQ_rat h, if_pos rfl]
theorem print_ne {q : Rat} : printQ (some q) ≠ ⟨#[]⟩ := fun h => by
  have h1 := congrArg (fun b : ByteArray => b.data.toList) h
  rw [print_some] at h1
  split at h1
  · have h2 : intT q.num = [] := by rw [← intB_toList]; exact h1
    unfold intT at h2
    split at h2
    · cases h2
    · exact natT_ne _ h2
  · have h2 : intT q.num ++ 47 :: intT q.den = [] := by rw [← slash_list]; exact h1
    simp at h2
theorem print_sized {q : Rat} (h : FitsQ q) : ((printQ (some q)).size : Int) ≤ 500 := by
  have s1 := intT_size h.1 (by decide)
  have s2 := intT_size h.2 (by decide)
  have s3 : (⟨#[47]⟩ : ByteArray).size = 1 := rfl
  rw [print_some]
  split
  · omega
  · rw [ByteArray.size_append, ByteArray.size_append]; omega
/-- What Print and Parse answer of a fraction. -/
structure TextF (n d s n2 d2 : ByteArray) (e : Int) (v : Bool) : Prop where
  pr : ∀ w, Calls Tryz.prog 28 #[.agg #[.string n, .string d]] w fun r w' => r = .returned (.string s) ∧ Below w.heap.size w w'
  rp : ∀ w, Calls Tryz.prog 30 #[.agg #[.string n, .string d]] w fun r w' => r = .returned (.string s) ∧ Below w.heap.size w w'
  pa : ∀ w, Calls Tryz.prog 29 #[.string s] w fun r w' => r = .returned (.tuple #[.agg #[.string n2, .string d2], .int .i64 e]) ∧ Below w.heap.size w w'
  va : ∀ w, Calls Tryz.prog 24 #[.agg #[.string n, .string d]] w fun r w' => r = .returned (.bool v) ∧ Below w.heap.size w w'
  same : (v = true ∧ e = 0 ∧ n2 = n ∧ d2 = d ∧ s ≠ ⟨#[]⟩) ∨ (v = false ∧ e = 40 ∧ s = ⟨#[]⟩)
theorem text_facts (n d : ByteArray) (hn : Sized n) (hd : Sized d) : ∃ s n2 d2 e v, TextF n d s n2 d2 e v := by
  have h1 := fun w => print_q n d hn hd w
  have h2 := fun w => rprint_q n d hn hd w
  have h3 := fun w => valid_q n d hn hd w
  rcases readQ_isSome (n := n) (d := d) with h | ⟨q, h, e1, e2, fq⟩
  · rw [h] at h1 h2 h3
    have h4 := fun w => parse_q ⟨#[]⟩ sized_nil w
    rw [parse_empty] at h4
    exact ⟨_, _, _, _, _, h1, h2, h4, h3, .inr ⟨rfl, rfl, rfl⟩⟩
  · rw [h] at h1 h2 h3
    have h4 := fun w => parse_q (printQ (some q)) (by have := print_sized fq; unfold Sized; omega) w
    rw [parse_print fq] at h4
    exact ⟨_, _, _, _, _, h1, h2, h4, h3, .inl ⟨rfl, rfl, e1.symm, e2.symm, print_ne⟩⟩
/-- What both Parses answer of any text. -/
structure ParseF (s n d p : ByteArray) (e : Int) : Prop where
  pa : ∀ w, Calls Tryz.prog 29 #[.string s] w fun r w' => r = .returned (.tuple #[.agg #[.string n, .string d], .int .i64 e]) ∧ Below w.heap.size w w'
  rp : ∀ w, Calls Tryz.prog 31 #[.string s] w fun r w' => r = .returned (.tuple #[.agg #[.string n, .string d], .int .i64 e]) ∧ Below w.heap.size w w'
  pr : ∀ w, Calls Tryz.prog 28 #[.agg #[.string n, .string d]] w fun r w' => r = .returned (.string p) ∧ Below w.heap.size w w'
  same : (e = 0 ∧ p = s) ∨ e = 40
theorem parseF_any (s : ByteArray) (hs : Sized s) : ∃ n d p e, ParseF s n d p e := by
  cases h : parseQ s with
  | none =>
    have h1 := fun w => parse_q s hs w
    have h2 := fun w => rparse_q s hs w
    rw [h] at h1 h2
    exact ⟨_, _, _, _, h1, h2, fun w => print_q _ _ sized_nil sized_nil w, .inr rfl⟩
  | some q =>
    have h1 := fun w => parse_q s hs w
    have h2 := fun w => rparse_q s hs w
    rw [h] at h1 h2
    have hp : printQ (some q) = s ∧ FitsQ q := by
      unfold parseQ at h
      split at h
      · rename_i k
        rw [h] at k
        exact ⟨k, (readQ_some h).2.2⟩
      · cases h
    refine ⟨_, _, printQ (some q), _, h1, h2, fun w => ?_, .inl ⟨rfl, hp.1⟩⟩
    have h3 := print_q (numB (some q)) (denB (some q)) (sized_fits hp.2.1) (sized_fits hp.2.2) w
    rw [readQ_parts (show FitsO (some q) from hp.2)] at h3
    exact h3
end Go.Proofs.YtelckldddflmmaaGreatDoor
