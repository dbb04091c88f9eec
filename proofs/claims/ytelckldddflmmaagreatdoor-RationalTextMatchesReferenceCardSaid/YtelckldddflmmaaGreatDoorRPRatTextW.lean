/- RationalTextMatchesReference: what the law's body answers. -/
import Derived.Test.YtelckldddflmmaaGreatDoorRP1
import Derived.Test.YtelckldddflmmaaGreatDoorRM6
import Derived.BigRegion
namespace Go.Proofs.YtelckldddflmmaaGreatDoor
open Go.RowKit Putlog

theorem boxRowT {w : World} {p : Nat} {x y : ByteArray} (h : w.heap[p]? = some (.cells #[.string x, .string y] 23 (0, 0))) : BoxQ p x y w := ⟨(cell2 h).1, (cell2b h).1⟩
theorem s5T {v w w1 : World} {p q : Nat} {x y z u : Value} (h : w.cell? ⟨p, 0, none⟩ = some x ∧ w.cell? ⟨p, 1, none⟩ = some y ∧ w.cell? ⟨q, 0, none⟩ = some z ∧ w.cell? ⟨q, 1, none⟩ = some u ∧ Below v.heap.size v w) (hB : Below w.heap.size w w1) : w1.cell? ⟨p, 0, none⟩ = some x ∧ w1.cell? ⟨p, 1, none⟩ = some y ∧ w1.cell? ⟨q, 0, none⟩ = some z ∧ w1.cell? ⟨q, 1, none⟩ = some u ∧ Below v.heap.size v w1 :=
  ⟨keptBelow hB h.1, keptBelow hB h.2.1, keptBelow hB h.2.2.1, keptBelow hB h.2.2.2.1, belowVia hB h.2.2.2.2⟩
set_option maxRecDepth 100000 in
set_option maxHeartbeats 8000000 in
theorem TextM_calls (x y : ByteArray) (x0 x1 x2 x3 at_ c : Int) (raw : ByteArray) (W : World) (hx : Sized x) (hy : Sized y) (h0 : I64 x0) (h1 : I64 x1) (h2 : I64 x2) (h3 : I64 x3) (ha : I64 at_) (hc0 : 0 ≤ c) (hc1 : c ≤ 255) (hr : Sized raw) (hT : TabP W) :
    Calls Tryz.prog 4 #[.agg #[.string x, .string y], .agg #[.int .i64 x0, .int .i64 x1, .int .i64 x2, .int .i64 x3], .int .i64 at_, .int .u8 c, .string raw] W fun e w' => e = .returned (.bool true) ∧ Below W.heap.size W w' := by
  have HL := Lib.hid (fun W => long_q x0 x1 x2 x3 h0 h1 h2 h3 W)
  have HCUT := Lib.hid (fun W => lcut_q x y hx hy W)
  have ZX := Lib.hid (cutB_sized 210 (by decide) x)
  have ZY := Lib.hid (cutB_sized 210 (by decide) y)
  have HPK := Lib.hid (fun n (hn : 0 < n) (hn2 : n ≤ 9223372036854775807) w => pick_q at_ n ha.1 ha.2 hn hn2 w)
  have HPB := Lib.hid (fun n (hn : 0 < n) => pickN_bounds at_ (n := n) hn)
  have HRAW := Lib.hid hr
  have HT := Lib.hid hT
  generalize cutB 210 x = a1 at *
  generalize cutB 210 y = a2 at *
  clear h0 h1 h2 h3 hx hy ha hr hT
  go_enter Tryz.func4, Tryz.ntmps4
  go_wp2_with fail
  have hs1 : (W.alloc (.cells #[.string x, .string y] 23)).heap.size = W.heap.size + 1 := by simp
  have hb1 := alloc_below W (.cells #[.string x, .string y] 23)
  have hb2 := alloc_below (W.alloc (.cells #[.string x, .string y] 23)) (.cells #[.int .i64 x0, .int .i64 x1, .int .i64 x2, .int .i64 x3] 24)
  have hr2 := heap_alloc_new (W.alloc (.cells #[.string x, .string y] 23)) (.cells #[.int .i64 x0, .int .i64 x1, .int .i64 x2, .int .i64 x3] 24)
  rw [hs1] at hr2
  have HW := Lib.hid (belowVia hb2 hb1)
  have BX := Lib.hid ((BoxQ.new W x y).via hb2)
  have HX := Lib.hid hr2
  have HT := Lib.hid (HT.out.via HW.out)
  clear hs1 hb1 hb2 hr2
  generalize (W.alloc (.cells #[.string x, .string y] 23)).alloc (.cells #[.int .i64 x0, .int .i64 x1, .int .i64 x2, .int .i64 x3] 24) = w0 at *
  refine (sane_q w0 HT.out).mono ?_
  rintro e v1 ⟨rfl, hB⟩
  have HW := Lib.hid (belowVia hB HW.out)
  have HX := Lib.hid (heap_below hB HX.out)
  have BX := Lib.hid (BX.out.via hB)
  clear hB HT
  have g0 := (cell_of_row _ _ 0 _ _ _ HX.out).trans (by rfl : _ = some (.int .i64 x0))
  have g1 := (cell_of_row _ _ 1 _ _ _ HX.out).trans (by rfl : _ = some (.int .i64 x1))
  have g2 := (cell_of_row _ _ 2 _ _ _ HX.out).trans (by rfl : _ = some (.int .i64 x2))
  have g3 := (cell_of_row _ _ 3 _ _ _ HX.out).trans (by rfl : _ = some (.int .i64 x3))
  go_wp2_with fail
  clear g0 g1 g2 g3 HX
  refine (HL.out _).mono ?_
  rintro e v2 ⟨⟨q, rfl, hq⟩, hB⟩
  have HW := Lib.hid (belowVia hB HW.out)
  have BX := Lib.hid (BX.out.via hB)
  have HFQ := Lib.hid (hq.fits (by decide) (by decide))
  clear hB HL hq
  have hB := alloc_below v2 (.cells #[.string (intB q.num), .string (intB q.den)] 23)
  have HW := Lib.hid (belowVia hB HW.out)
  have BX := Lib.hid (BX.out.via hB)
  have BM := Lib.hid (BoxQ.new v2 (intB q.num) (intB q.den))
  have HPM : Hid (∀ w, Calls Tryz.prog 30 #[.agg #[.string (intB q.num), .string (intB q.den)]] w fun r w' => r = .returned (.string (printQ (some q))) ∧ Below w.heap.size w w') := fun w => by
    have h := rprint_q (intB q.num) (intB q.den) (sized_fits HFQ.out.1) (sized_fits HFQ.out.2) w
    rwa [readQ_rat HFQ.out] at h
  have ZN := Lib.hid (sized_fits HFQ.out.1)
  have ZD := Lib.hid (sized_fits HFQ.out.2)
  have HS0 := Lib.hid (print_ne (q := q))
  have HS1 := Lib.hid (print_sized HFQ.out)
  clear hB HFQ
  generalize printQ (some q) = sm at *
  generalize intB q.num = n4 at *
  generalize intB q.den = d4 at *
  clear q
  go_upto_region 3 with fail
  generalize v2.alloc (.cells #[.string n4, .string d4] 23) = v3 at *
  generalize v2.heap.size = pm at *
  obtain ⟨e0, e1⟩ := BX.out
  obtain ⟨e2, e3⟩ := BM.out
  go_region_held3 (fun w' => w'.cell? ⟨W.heap.size, 0, none⟩ = some (.string x) ∧ w'.cell? ⟨W.heap.size, 1, none⟩ = some (.string y) ∧ w'.cell? ⟨pm, 0, none⟩ = some (.string n4) ∧ w'.cell? ⟨pm, 1, none⟩ = some (.string d4) ∧ Below v3.heap.size v3 w')
    (first | exact ⟨e0, e1, e2, e3, (Below.refl _ _).drew⟩ | exact s5T (by assumption) hB3 | exact s5T (by assumption) (alloc_below _ _))
    ((go_at_call 7; (with_reducible refine (HCUT.out _).mono ?_); rintro e u3 ⟨rfl, hB3⟩))
  have HB3 : Hid (Below v3.heap.size v3 (u3.alloc (.cells #[.string a1, .string a2, .string n4, .string d4] 23))) := And.right (And.right (And.right (And.right (by assumption))))
  have hrow := heap_alloc_new u3 (.cells #[.string a1, .string a2, .string n4, .string d4] 23)
  have HCS : Hid (∀ k : Nat, k < 2 → ∃ n d : ByteArray, (u3.alloc (.cells #[.string a1, .string a2, .string n4, .string d4] 23)).cell? ⟨u3.heap.size, k * 2, none⟩ = some (.string n) ∧ (u3.alloc (.cells #[.string a1, .string a2, .string n4, .string d4] 23)).cell? ⟨u3.heap.size, k * 2 + 1, none⟩ = some (.string d) ∧ Sized n ∧ Sized d) := by
    show ∀ k : Nat, k < 2 → _
    intro k hk
    rcases (by omega : k = 0 ∨ k = 1) with rfl | rfl
    · exact ⟨_, _, (cell_of_row _ _ 0 _ _ _ hrow).trans rfl, (cell_of_row _ _ 1 _ _ _ hrow).trans rfl, ZX.out, ZY.out⟩
    · exact ⟨_, _, (cell_of_row _ _ 2 _ _ _ hrow).trans rfl, (cell_of_row _ _ 3 _ _ _ hrow).trans rfl, ZN.out, ZD.out⟩
  have BM := Lib.hid (BM.out.via HB3.out)
  have HW := Lib.hid (belowVia HB3.out HW.out)
  clear hrow BX HB3 HCUT ZX ZY ZN ZD e0 e1 e2 e3
  go_wp2_with fail
  generalize u3.alloc (.cells #[.string a1, .string a2, .string n4, .string d4] 23) = w4 at *
  generalize u3.heap.size = g at *
  go_loopw [34] (fun i wr => ∃ k : Nat, k ≤ 2 ∧ i = .int .i64 k ∧ Below w4.heap.size w4 wr) (fun i _ => 2 - (intOf i).toNat)
  case atStart => exact ⟨0, Nat.zero_le _, rfl, Below.refl _ _⟩
  case round =>
    obtain ⟨k, hk, rfl, hB⟩ := hrel
    have HB := Lib.hid hB
    clear hB
    by_cases hlt : k < 2
    · have hlt' : (k : Int) < 2 := by omega
      obtain ⟨n, d, e0, e1, z1, z2⟩ := HCS.out k hlt
      replace e0 := keptBelow HB.out e0
      replace e1 := keptBelow HB.out e1
      obtain ⟨s, n2, d2, er, v, hF⟩ := text_facts n d z1 z2
      have HF := Lib.hid hF
      clear hF z1 z2
      have BR := Lib.hid (BoxQ.new wr n d)
      have HB := Lib.hid (belowVia (alloc_below wr (.cells #[.string n, .string d] 23)) HB.out)
      obtain ⟨f0, f1⟩ := BR.out
      go_wp2_with fail
      clear e0 e1 f0 f1
      generalize wr.alloc (.cells #[.string n, .string d] 23) = x1' at *
      generalize wr.heap.size = p at *
      refine (HF.out.pr _).mono ?_
      rintro e y1 ⟨rfl, hB⟩
      have HB := Lib.hid (belowVia hB HB.out)
      have BR := Lib.hid (BR.out.via hB)
      clear hB
      go_wp2_with fail
      refine (HF.out.pa _).mono ?_
      rintro e y2 ⟨rfl, hB⟩
      have HB := Lib.hid (belowVia hB HB.out)
      have BR := Lib.hid (BR.out.via hB)
      clear hB
      have hB := alloc_below y2 (.cells #[.string n2, .string d2] 23)
      have HB := Lib.hid (belowVia hB HB.out)
      have BR := Lib.hid (BR.out.via hB)
      have BP := Lib.hid (BoxQ.new y2 n2 d2)
      clear hB
      obtain ⟨f0, f1⟩ := BR.out
      go_wp2_with fail
      clear f0 f1
      generalize y2.alloc (.cells #[.string n2, .string d2] 23) = y3 at *
      generalize y2.heap.size = p2 at *
      refine (HF.out.rp _).mono ?_
      rintro e y4 ⟨rfl, hB⟩
      have HB := Lib.hid (belowVia hB HB.out)
      have BR := Lib.hid (BR.out.via hB)
      have BP := Lib.hid (BP.out.via hB)
      clear hB
      have hss := str_eq s s
      rw [decide_eq_true rfl] at hss
      have hse := str_eq s ⟨#[]⟩
      rw [show (⟨#[]⟩ : ByteArray).toList = [] by decide +kernel] at hse
      rcases HF.out.same with ⟨rfl, rfl, rfl, rfl, hsn⟩ | ⟨rfl, rfl, rfl⟩
      · rw [decide_eq_false hsn] at hse
        clear hsn
        obtain ⟨f0, f1⟩ := BR.out
        obtain ⟨f2, f3⟩ := BP.out
        go_wp2_with fail
        clear f0 f1 f2 f3
        refine (HF.out.va _).mono ?_
        rintro e y5 ⟨rfl, hB⟩
        have HB := Lib.hid (belowVia hB HB.out)
        have BR := Lib.hid (BR.out.via hB)
        have BP := Lib.hid (BP.out.via hB)
        clear hB
        obtain ⟨f0, f1⟩ := BR.out
        obtain ⟨f2, f3⟩ := BP.out
        go_wp2_with fail
        clear f0 f1 f2 f3
        refine (HF.out.va _).mono ?_
        rintro e y6 ⟨rfl, hB⟩
        have HB := Lib.hid (belowVia hB HB.out)
        clear hB
        go_wp2_with fail
        go_roundw
        case rel => exact ⟨k + 1, by omega, by go_num, HB.out⟩
        case measure => simp [intOf]; omega
      · rw [decide_eq_true rfl] at hse
        obtain ⟨f0, f1⟩ := BR.out
        obtain ⟨f2, f3⟩ := BP.out
        go_wp2_with fail
        clear f0 f1 f2 f3
        refine (HF.out.va _).mono ?_
        rintro e y5 ⟨rfl, hB⟩
        have HB := Lib.hid (belowVia hB HB.out)
        have BR := Lib.hid (BR.out.via hB)
        have BP := Lib.hid (BP.out.via hB)
        clear hB
        obtain ⟨f0, f1⟩ := BR.out
        obtain ⟨f2, f3⟩ := BP.out
        go_wp2_with fail
        clear f0 f1 f2 f3
        refine (HF.out.va _).mono ?_
        rintro e y6 ⟨rfl, hB⟩
        have HB := Lib.hid (belowVia hB HB.out)
        clear hB
        go_wp2_with fail
        go_roundw
        case rel => exact ⟨k + 1, by omega, by go_num, HB.out⟩
        case measure => simp [intOf]; omega
    · obtain rfl : k = 2 := by omega
      have HW := Lib.hid (belowVia HB.out HW.out)
      have BM := Lib.hid (BM.out.via HB.out)
      clear HB HCS hlt hk
      obtain ⟨f0, f1⟩ := BM.out
      go_wp2_with fail
      clear f0 f1
      refine (HPM.out _).mono ?_
      rintro e y1 ⟨rfl, hB⟩
      have HW := Lib.hid (belowVia hB HW.out)
      clear hB BM HPM
      have hse := str_eq sm ⟨#[]⟩
      rw [show (⟨#[]⟩ : ByteArray).toList = [] by decide +kernel, decide_eq_false HS0.out] at hse
      have hs0 : 0 < sm.size := Nat.pos_of_ne_zero fun e => HS0.out (ByteArray.ext (Array.eq_empty_of_size_eq_zero e))
      have hs500 := HS1.out
      have HK := Lib.hid (HPK.out sm.size (by omega) (by omega))
      obtain ⟨k0, k1⟩ := HPB.out sm.size (by omega)
      obtain ⟨j, hj⟩ : ∃ j : Nat, pickN at_ sm.size = j := ⟨(pickN at_ sm.size).toNat, by omega⟩
      rw [hj] at HK k0 k1
      clear hj HPK HPB
      go_wp2_with fail
      refine (HK.out _).mono ?_
      rintro e y2 ⟨rfl, rfl⟩
      go_wp2_with fail
      obtain ⟨bu, hbu⟩ : ∃ bu : UInt8, (bu.toNat : Int) = c := ⟨UInt8.ofNat c.toNat, by rw [UInt8.toNat_ofNat']; omega⟩
      subst hbu
      obtain ⟨m, hm⟩ : ∃ m : Nat, m = min raw.size 420 := ⟨_, rfl⟩
      have hrs : (raw.size : Int) ≤ 9223372036854775807 := HRAW.out
      have m1 : min (raw.size : Int) 420 = (m : Int) := by omega
      have m2 : (if (420 : Int) < (raw.size : Int) then (420 : Int) else (raw.size : Int)) = (m : Int) := by split <;> omega
      have m3 : (m : Int) ≤ raw.size := by omega
      have m4 : m ≤ raw.size := by omega
      have m5 : min raw.size 420 = m := hm.symm
      clear hm
      have hjs : j < sm.size := by omega
      have hjl : (j : Int) ≤ sm.size := by omega
      have hj1 : ((j + 1 : Nat) : Int) ≤ sm.size := by omega
      have hj2 : j + 1 ≤ sm.size := by omega
      have hj3 : j ≤ sm.size := by omega
      have hjw : IntKind.i64.wrap ((j : Int) + 1) = ((j + 1 : Nat) : Int) := by rw [IntKind.wrap_i64]; omega
      have z1 : (sm.extract 0 j).size = j := by rw [ByteArray.size_extract]; omega
      have z2 : (sm.extract (j + 1) sm.size).size = sm.size - (j + 1) := by rw [ByteArray.size_extract]; omega
      have z3 : (⟨#[bu]⟩ : ByteArray).size = 1 := rfl
      have z4 : (sm.extract 0 j ++ ⟨#[bu]⟩).size = j + 1 := by rw [ByteArray.size_append, z1, z3]
      have hcv := convB (y2.alloc (.cells #[.int .u8 (bu.toNat : Int)] 5)).drew y2.heap.size 1 [bu] (fun j' hj' => by
        obtain rfl : j' = 0 := by simpa using hj'
        exact cell_rowN y2 _ _ 0 rfl)
      simp only [List.length_cons, List.length_nil, Nat.zero_add] at hcv
      have HBL := Lib.hid (alloc_below y2 (.cells #[.int .u8 (bu.toNat : Int)] 5))
      go_region
      have hu1 : Sized (raw.extract 0 m) := by unfold Sized; rw [ByteArray.size_extract]; omega
      have hu2 : Sized (sm.extract 0 j ++ ⟨#[bu]⟩ ++ sm.extract (j + 1) sm.size) := by unfold Sized; rw [ByteArray.size_append, z4, z2]; omega
      have U1 := Lib.hid hu1
      have U2 := Lib.hid hu2
      clear hu1 hu2 z1 z2 z3 z4 hcv m1 m2 m3 m4 m5 hrs hjs hjl hj1 hj2 hj3 hjw k0 k1
      generalize raw.extract 0 m = t1 at *
      generalize sm.extract 0 j ++ ⟨#[bu]⟩ ++ sm.extract (j + 1) sm.size = t2 at *
      have HBA : Hid (Below W.heap.size W (((y2.alloc (.cells #[.int .u8 (bu.toNat : Int)] 5)).alloc (.cells #[.string t1, .string t2] 9)).drew)) := (belowVia (alloc_below _ _) (belowVia HBL.out HW.out)).drew
      have hrow := heap_alloc_new (y2.alloc (.cells #[.int .u8 (bu.toNat : Int)] 5)) (.cells #[.string t1, .string t2] 9)
      rw [show (y2.alloc (.cells #[.int .u8 (bu.toNat : Int)] 5)).heap.size = y2.heap.size + 1 by simp] at hrow
      have HCT : Hid (∀ i : Nat, i < 2 → ∃ t : ByteArray, (((y2.alloc (.cells #[.int .u8 (bu.toNat : Int)] 5)).alloc (.cells #[.string t1, .string t2] 9)).drew).cell? ⟨y2.heap.size + 1, i, none⟩ = some (.string t) ∧ Sized t) := by
        show ∀ i : Nat, i < 2 → _
        intro i hi
        rcases (by omega : i = 0 ∨ i = 1) with rfl | rfl
        · exact ⟨_, (cell_of_row (((y2.alloc (.cells #[.int .u8 (bu.toNat : Int)] 5)).alloc (.cells #[.string t1, .string t2] 9)).drew) _ 0 _ _ _ hrow).trans rfl, U1.out⟩
        · exact ⟨_, (cell_of_row (((y2.alloc (.cells #[.int .u8 (bu.toNat : Int)] 5)).alloc (.cells #[.string t1, .string t2] 9)).drew) _ 1 _ _ _ hrow).trans rfl, U2.out⟩
      clear hrow HBL HW U1 U2
      go_wp2_with fail
      generalize ((y2.alloc (.cells #[.int .u8 (bu.toNat : Int)] 5)).alloc (.cells #[.string t1, .string t2] 9)).drew = w6 at *
      go_loopw [96] (fun i wr => ∃ k : Nat, k ≤ 2 ∧ i = .int .i64 k ∧ Below w6.heap.size w6 wr) (fun i _ => 2 - (intOf i).toNat)
      case atStart => exact ⟨0, Nat.zero_le _, rfl, Below.refl _ _⟩
      case round =>
        obtain ⟨k, hk, rfl, hB⟩ := hrel
        have HB := Lib.hid hB
        clear hB
        by_cases hlt : k < 2
        · have hlt' : (k : Int) < 2 := by omega
          obtain ⟨t, e0, z⟩ := HCT.out k hlt
          replace e0 := keptBelow HB.out e0
          obtain ⟨n, d, p', er, hF⟩ := parseF_any t z
          have HF := Lib.hid hF
          clear hF z
          go_wp2_with fail
          clear e0
          refine (HF.out.pa _).mono ?_
          rintro e v4 ⟨rfl, hB⟩
          have HB := Lib.hid (belowVia hB HB.out)
          clear hB
          have hB := alloc_below v4 (.cells #[.string n, .string d] 23)
          have HB := Lib.hid (belowVia hB HB.out)
          have BR := Lib.hid (BoxQ.new v4 n d)
          clear hB
          go_wp2_with fail
          generalize v4.alloc (.cells #[.string n, .string d] 23) = v5 at *
          generalize v4.heap.size = p at *
          refine (HF.out.rp _).mono ?_
          rintro e v6 ⟨rfl, hB⟩
          have HB := Lib.hid (belowVia hB HB.out)
          have BR := Lib.hid (BR.out.via hB)
          clear hB
          have hB := alloc_below v6 (.cells #[.string n, .string d] 23)
          have HB := Lib.hid (belowVia hB HB.out)
          have BR := Lib.hid (BR.out.via hB)
          have BP := Lib.hid (BoxQ.new v6 n d)
          clear hB
          obtain ⟨f0, f1⟩ := BR.out
          obtain ⟨f2, f3⟩ := BP.out
          have hss := str_eq t t
          rw [decide_eq_true rfl] at hss
          rcases HF.out.same with ⟨rfl, rfl⟩ | rfl
          · go_wp2_with fail
            clear f0 f1 f2 f3
            generalize v6.alloc (.cells #[.string n, .string d] 23) = v7 at *
            refine (HF.out.pr _).mono ?_
            rintro e v8 ⟨rfl, hB⟩
            have HB := Lib.hid (belowVia hB HB.out)
            clear hB
            go_wp2_with fail
            go_roundw
            case rel => exact ⟨k + 1, by omega, by go_num, HB.out⟩
            case measure => simp [intOf]; omega
          · go_wp2_with fail
            go_roundw
            case rel => exact ⟨k + 1, by omega, by go_num, HB.out⟩
            case measure => simp [intOf]; omega
        · obtain rfl : k = 2 := by omega
          go_wp2_with fail
          go_ret
          exact ⟨rfl, belowVia HB.out HBA.out⟩
end Go.Proofs.YtelckldddflmmaaGreatDoor
