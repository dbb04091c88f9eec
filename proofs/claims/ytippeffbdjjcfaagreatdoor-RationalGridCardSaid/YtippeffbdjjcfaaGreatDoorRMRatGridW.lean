/- RationalGrid: what the law's body answers. -/
import Derived.Test.YtippeffbdjjcfaaGreatDoorRM6
namespace Go.Proofs.YtippeffbdjjcfaaGreatDoor
open Go.RowKit Putlog

theorem tenG_step (k : Nat) : intB (10 ^ k) ++ ⟨#[48]⟩ = intB (10 ^ (k + 1)) := by
  rw [intB_ten, intB_ten]
  apply ByteArray.ext
  rw [ByteArray.data_append]
  apply Array.toList_inj.1
  rw [tenT_succ]; simp
theorem tenG_size (k : Nat) : (intB (10 ^ k)).size = k + 1 := by
  rw [intB_ten]; show (tenT k).toArray.size = k + 1
  simp [tenT]
theorem BoxQ.set2 {p q : Nat} {x y : ByteArray} {a b : Value} {w : World} (h : BoxQ p x y w) (hne : p ≠ q) : BoxQ p x y ((w.setCell ⟨q, 0, none⟩ a).setCell ⟨q, 1, none⟩ b) := ⟨cellOther (cellOther h.a hne) hne, cellOther (cellOther h.b hne) hne⟩
theorem want_set {q : Nat} {a b : Value} {w : World} (h : w.heap[q]? = some (.cells #[a, b] 23 (0, 0))) (x y : Value) : ((w.setCell ⟨q, 0, none⟩ x).setCell ⟨q, 1, none⟩ y).heap[q]? = some (.cells #[x, y] 23 (0, 0)) :=
  heap_setCell_same _ _ 1 _ _ y (heap_setCell_same w _ 0 _ _ x h)
theorem s9K {v w w1 : World} {a b c d : Nat} {x1 x2 x3 x4 x5 x6 x7 x8 : Value} (h : w.cell? ⟨a, 0, none⟩ = some x1 ∧ w.cell? ⟨a, 1, none⟩ = some x2 ∧ w.cell? ⟨b, 0, none⟩ = some x3 ∧ w.cell? ⟨b, 1, none⟩ = some x4 ∧ w.cell? ⟨c, 0, none⟩ = some x5 ∧ w.cell? ⟨c, 1, none⟩ = some x6 ∧ w.cell? ⟨d, 0, none⟩ = some x7 ∧ w.cell? ⟨d, 1, none⟩ = some x8 ∧ Below v.heap.size v w) (hB : Below w.heap.size w w1) :
    w1.cell? ⟨a, 0, none⟩ = some x1 ∧ w1.cell? ⟨a, 1, none⟩ = some x2 ∧ w1.cell? ⟨b, 0, none⟩ = some x3 ∧ w1.cell? ⟨b, 1, none⟩ = some x4 ∧ w1.cell? ⟨c, 0, none⟩ = some x5 ∧ w1.cell? ⟨c, 1, none⟩ = some x6 ∧ w1.cell? ⟨d, 0, none⟩ = some x7 ∧ w1.cell? ⟨d, 1, none⟩ = some x8 ∧ Below v.heap.size v w1 := by
  obtain ⟨h1, h2, h3, h4, h5, h6, h7, h8, h9⟩ := h
  exact ⟨keptBelow hB h1, keptBelow hB h2, keptBelow hB h3, keptBelow hB h4, keptBelow hB h5, keptBelow hB h6, keptBelow hB h7, keptBelow hB h8, belowVia hB h9⟩
set_option maxRecDepth 100000 in
set_option maxHeartbeats 8000000 in
theorem Grid_calls (x0 x1 x2 x3 places : Int) (W : World) (h0 : I64 x0) (h1 : I64 x1) (h2 : I64 x2) (h3 : I64 x3) (hf0 : -9223372036854775808 ≤ places) (hf1 : places ≤ 9223372036854775807) (hT : TabP W) :
    Calls Tryz.prog 7 #[.agg #[.int .i64 x0, .int .i64 x1, .int .i64 x2, .int .i64 x3], .int .i64 places] W fun e w' => e = .returned (.bool true) ∧ Below W.heap.size W w' := by
  have HL := Lib.hid (fun W => long_q x0 x1 x2 x3 h0 h1 h2 h3 W)
  have HP := Lib.hid (fun W => pick_q places 31 hf0 hf1 (by decide) (by decide) W)
  obtain ⟨p1, p2⟩ := pickN_bounds places (n := 31) (by decide)
  obtain ⟨P, hP⟩ : ∃ P : Nat, pickN places 31 = P := ⟨(pickN places 31).toNat, by omega⟩
  rw [hP] at HP p1 p2
  have hP30 : P ≤ 30 := by omega
  have HP30 := Lib.hid hP30
  have HXA := alloc_below W (.cells #[.int .i64 x0, .int .i64 x1, .int .i64 x2, .int .i64 x3] 24)
  have HX := heap_alloc_new W (.cells #[.int .i64 x0, .int .i64 x1, .int .i64 x2, .int .i64 x3] 24)
  have HS := Lib.hid (sane_q _ (hT.via HXA))
  have HW := Lib.hid HXA
  have HXX := Lib.hid HX
  clear h0 h1 h2 h3 hf0 hf1 hT p1 p2 hP hP30 HXA HX
  go_enter Tryz.func7, Tryz.ntmps7
  go_wp2_with fail
  refine HS.out.mono ?_
  rintro e v1 ⟨rfl, hB⟩
  have HXX := Lib.hid (heap_below hB HXX.out)
  have HW := Lib.hid (belowVia hB HW.out)
  clear hB HS
  have g0 := (cell_of_row v1 _ 0 _ _ _ HXX.out).trans (by rfl : _ = some (.int .i64 x0))
  have g1 := (cell_of_row v1 _ 1 _ _ _ HXX.out).trans (by rfl : _ = some (.int .i64 x1))
  have g2 := (cell_of_row v1 _ 2 _ _ _ HXX.out).trans (by rfl : _ = some (.int .i64 x2))
  have g3 := (cell_of_row v1 _ 3 _ _ _ HXX.out).trans (by rfl : _ = some (.int .i64 x3))
  go_wp2_with fail
  clear g0 g1 g2 g3 HXX
  refine (HL.out _).mono ?_
  rintro e v2 ⟨⟨q, rfl, hq⟩, hB⟩
  have HW := Lib.hid (belowVia hB HW.out)
  have HF := Lib.hid (grid_facts hq HP30.out)
  clear hB hq HL
  generalize intB q.num = nu at *
  generalize intB q.den = de at *
  generalize intB (dnR q P).num = dn at *
  generalize intB (dnR q P).den = dd at *
  generalize intB (upR q P).num = un at *
  generalize intB (upR q P).den = ud at *
  generalize intB (-q).num = mn at *
  generalize intB (-q).den = md at *
  generalize intB (dnR (-q) P).num = en at *
  generalize intB (dnR (-q) P).den = ed at *
  generalize intB (downI q P) = n1 at *
  generalize intB (upR q P - dnR q P).num = wn at *
  generalize intB (upR q P - dnR q P).den = wd at *
  generalize cmpR (dnR q P) q = c1 at *
  generalize cmpR (upR q P) q = c2 at *
  clear q
  go_wp2_with fail
  have BR := Lib.hid (BoxQ.new v2 nu de)
  have HW := Lib.hid (belowVia (alloc_below v2 (.cells #[.string nu, .string de] 23)) HW.out)
  generalize v2.alloc (.cells #[.string nu, .string de] 23) = v3 at *
  generalize v2.heap.size = pr at *
  refine (HP.out v3).mono ?_
  rintro e v4 ⟨rfl, rfl⟩
  go_wp2_with fail
  go_loopw [7, 8] (fun a i wr => ∃ k : Nat, k ≤ P ∧ i = .int .i64 k ∧ a = .string (intB (10 ^ k)) ∧ wr = v4) (fun _ i _ => P - (intOf i).toNat)
  case atStart => exact ⟨0, by omega, rfl, by rw [show (10 : Int) ^ 0 = 1 from rfl, intB_one], rfl⟩
  case round =>
    obtain ⟨k, hk, rfl, rfl, rfl⟩ := hrel
    by_cases hlt : k < P
    · have hlt' : (k : Int) < P := by omega
      have h1 := tenG_step k
      have hP30 := HP30.out
      have h2 : ((intB (10 ^ k)).size : Int) ≤ 300 := by rw [tenG_size]; omega
      have HT := Lib.hid h1
      clear h1
      generalize intB (10 ^ k) = x at *
      go_wp2_with fail
      go_roundw
      case rel => exact ⟨k + 1, by omega, by go_num, by rw [← HT.out], by simp⟩
      case measure => simp [intOf]; omega
    · obtain rfl : P = k := by omega
      have hle : (P : Int) ≤ P := by omega
      clear hlt hk
      have HT1 : Hid (P = 0 → intB (10 ^ P) = ⟨#[49]⟩) := fun e => by rw [e, show (10 : Int) ^ 0 = 1 from rfl, intB_one]
      generalize intB (10 ^ P) = tb at *
      obtain ⟨y00, y01⟩ := BR.out
      go_wp2_with fail
      clear y00 y01
      refine (HF.out.down _).mono ?_
      rintro e va ⟨rfl, hB⟩
      have HW := Lib.hid (belowVia (alloc_below va (.cells #[.string dn, .string dd] 23)) (belowVia hB HW.out))
      have BR := Lib.hid ((BR.out.via hB).via (alloc_below va (.cells #[.string dn, .string dd] 23)))
      have BD := Lib.hid (BoxQ.new va dn dd)
      clear hB
      obtain ⟨y00, y01⟩ := BR.out
      go_wp2_with fail
      clear y00 y01
      generalize va.alloc (.cells #[.string dn, .string dd] 23) = xva at *
      generalize va.heap.size = pBD at *
      refine (HF.out.up _).mono ?_
      rintro e vb ⟨rfl, hB⟩
      have HW := Lib.hid (belowVia (alloc_below vb (.cells #[.string un, .string ud] 23)) (belowVia hB HW.out))
      have BR := Lib.hid ((BR.out.via hB).via (alloc_below vb (.cells #[.string un, .string ud] 23)))
      have BD := Lib.hid ((BD.out.via hB).via (alloc_below vb (.cells #[.string un, .string ud] 23)))
      have BU := Lib.hid (BoxQ.new vb un ud)
      clear hB
      obtain ⟨y00, y01⟩ := BR.out
      go_wp2_with fail
      clear y00 y01
      generalize vb.alloc (.cells #[.string un, .string ud] 23) = xvb at *
      generalize vb.heap.size = pBU at *
      refine (HF.out.neg _).mono ?_
      rintro e vc ⟨rfl, hB⟩
      have HW := Lib.hid (belowVia hB HW.out)
      have BR := Lib.hid (BR.out.via hB)
      have BD := Lib.hid (BD.out.via hB)
      have BU := Lib.hid (BU.out.via hB)
      clear hB
      go_wp2_with fail
      refine (HF.out.dneg _).mono ?_
      rintro e vd ⟨rfl, hB⟩
      have HW := Lib.hid (belowVia (alloc_below vd (.cells #[.string en, .string ed] 23)) (belowVia hB HW.out))
      have BR := Lib.hid ((BR.out.via hB).via (alloc_below vd (.cells #[.string en, .string ed] 23)))
      have BD := Lib.hid ((BD.out.via hB).via (alloc_below vd (.cells #[.string en, .string ed] 23)))
      have BU := Lib.hid ((BU.out.via hB).via (alloc_below vd (.cells #[.string en, .string ed] 23)))
      have BE := Lib.hid (BoxQ.new vd en ed)
      clear hB
      go_wp2_with fail
      generalize vd.alloc (.cells #[.string en, .string ed] 23) = xvd at *
      generalize vd.heap.size = pBE at *
      obtain ⟨r0, r1⟩ := BR.out
      obtain ⟨a0, a1⟩ := BD.out
      obtain ⟨b0, b1⟩ := BU.out
      obtain ⟨z0, z1⟩ := BE.out
      have hg1 : decide (0 < c1) = false := decide_eq_false (by rcases HF.out.fin with h | h <;> omega)
      have hg2 : decide (c2 < 0) = false := decide_eq_false (by rcases HF.out.fin with h | h <;> omega)
      have HN := Lib.hid HF.out.nneg
      have HC1 := Lib.hid HF.out.cd
      have HC2 := Lib.hid HF.out.cu
      go_region_held3 (fun w' => w'.cell? ⟨pr, 0, none⟩ = some (.string nu) ∧ w'.cell? ⟨pr, 1, none⟩ = some (.string de) ∧ w'.cell? ⟨pBD, 0, none⟩ = some (.string dn) ∧ w'.cell? ⟨pBD, 1, none⟩ = some (.string dd) ∧ w'.cell? ⟨pBU, 0, none⟩ = some (.string un) ∧ w'.cell? ⟨pBU, 1, none⟩ = some (.string ud) ∧ w'.cell? ⟨pBE, 0, none⟩ = some (.string en) ∧ w'.cell? ⟨pBE, 1, none⟩ = some (.string ed) ∧ Below xvd.heap.size xvd w')
        (first | exact ⟨r0, r1, a0, a1, b0, b1, z0, z1, (Below.refl _ _).drew⟩ | exact s9K (by assumption) hB3) (first
        | (go_at_call 38; (with_reducible refine (HN.out _).mono ?_); rintro e u3 ⟨rfl, hB3⟩)
        | (go_at_call 17; (first | ((with_reducible refine (HC1.out _).mono ?_); rintro e u3 ⟨rfl, hB3⟩) | ((with_reducible refine (HC2.out _).mono ?_); rintro e u3 ⟨rfl, hB3⟩))))
      all_goals
        have HH : Hid (Below xvd.heap.size xvd _) := And.right (And.right (And.right (And.right (And.right (And.right (And.right (And.right (by assumption))))))))
        clear r0 r1 a0 a1 b0 b1 z0 z1 hg1 hg2 HN HC1 HC2
        have HW := Lib.hid (belowVia HH.out HW.out)
        have BR := Lib.hid (BR.out.via HH.out)
        have BD := Lib.hid (BD.out.via HH.out)
        have BU := Lib.hid (BU.out.via HH.out)
        clear HH BE
        obtain ⟨y00, y01⟩ := BU.out
        go_wp2_with fail
        clear y00 y01
        refine (HF.out.again _).mono ?_
        rintro e vf ⟨rfl, hB⟩
        have HW := Lib.hid (belowVia (alloc_below vf (.cells #[.string un, .string ud] 23)) (belowVia hB HW.out))
        have BR := Lib.hid ((BR.out.via hB).via (alloc_below vf (.cells #[.string un, .string ud] 23)))
        have BD := Lib.hid ((BD.out.via hB).via (alloc_below vf (.cells #[.string un, .string ud] 23)))
        have BU := Lib.hid ((BU.out.via hB).via (alloc_below vf (.cells #[.string un, .string ud] 23)))
        have BG := Lib.hid (BoxQ.new vf un ud)
        clear hB
        obtain ⟨y00, y01⟩ := BD.out
        go_wp2_with fail
        clear y00 y01
        generalize vf.alloc (.cells #[.string un, .string ud] 23) = xvf at *
        generalize vf.heap.size = pBG at *
        refine (HF.out.twice _).mono ?_
        rintro e vg ⟨rfl, hB⟩
        have HW := Lib.hid (belowVia (alloc_below vg (.cells #[.string dn, .string dd] 23)) (belowVia hB HW.out))
        have BR := Lib.hid ((BR.out.via hB).via (alloc_below vg (.cells #[.string dn, .string dd] 23)))
        have BD := Lib.hid ((BD.out.via hB).via (alloc_below vg (.cells #[.string dn, .string dd] 23)))
        have BU := Lib.hid ((BU.out.via hB).via (alloc_below vg (.cells #[.string dn, .string dd] 23)))
        have BG := Lib.hid ((BG.out.via hB).via (alloc_below vg (.cells #[.string dn, .string dd] 23)))
        have BT := Lib.hid (BoxQ.new vg dn dd)
        clear hB
        go_wp2_with fail
        generalize vg.alloc (.cells #[.string dn, .string dd] 23) = xvg at *
        generalize vg.heap.size = pBT at *
        have LV := Lib.hid BD.out.lt
        go_cut [19, 20] (fun s19 s20 wx => Hid (∃ q, s19 = .pointer (some ⟨q, 0, none⟩) ∧ BoxQ q n1 ⟨#[49]⟩ wx) ∧ s20 = .int .i64 0 ∧ BoxQ pr nu de wx ∧ BoxQ pBD dn dd wx ∧ BoxQ pBU un ud wx ∧ BoxQ pBG un ud wx ∧ BoxQ pBT dn dd wx ∧ Below W.heap.size W wx)
        case first =>
          obtain ⟨l0, l1⟩ := BD.out
          have lv := LV.out
          have HMU := Lib.hid HF.out.mul
          go_region_held3 (fun w' => w'.cell? ⟨pBD, 0, none⟩ = some (.string dn) ∧ w'.cell? ⟨pBD, 1, none⟩ = some (.string dd) ∧ Below xvg.heap.size xvg w')
            (first | exact ⟨l0, l1, (Below.refl _ _).drew⟩ | exact s3Keep (by assumption) (alloc_below _ _) | exact s3Keep (by assumption) hB1 | exact s3Keep (by assumption) hB3 | exact s3Swap (by assumption) (by omega) (by omega) | exact s3Store (by assumption) (by omega) (by omega)) (first
            | (go_at_call 37; (with_reducible refine (is_q _ _ _).mono ?_); rintro e u1 ⟨rfl, hB1⟩; have M1 : xvg.heap.size ≤ u1.heap.size := s3Size (by assumption) hB1; (first | have X1 := pairVia hB1 (pairNew _ _ _ _) | skip))
            | (go_at_call 35; (with_reducible refine (HMU.out _).mono ?_); rintro e u3 ⟨rfl, hB3⟩; have M3 : xvg.heap.size ≤ u3.heap.size := s3Size (by assumption) hB3; (first | have X3 := pairVia hB3 X1 | have X3 := pairVia hB3 (pairNew _ _ _ _) | skip); (first | (obtain ⟨X5, X6, X7, X8⟩ := X3; (try simp only [alloc_size] at X5 X6 X7 X8); (try simp only [drew_size] at X5 X6 X7 X8)) | skip)))
          all_goals
            have HH : Hid (Below xvg.heap.size xvg _) := And.right (And.right (by assumption))
            go_wp2_with fail
            go_meet
            case rel => exact ⟨⟨_, rfl, by first | exact BoxQ.new _ _ _ | exact BoxQ.stored X5 X6⟩, rfl, BR.out.via HH.out, BD.out.via HH.out, BU.out.via HH.out, BG.out.via HH.out, BT.out.via HH.out, belowVia HH.out HW.out⟩
        case rest =>
          obtain ⟨hq, rfl, BR, BD, BU, BG, BT, HW⟩ := hcut
          obtain ⟨pq, rfl, BN⟩ := hq.out
          have BR := Lib.hid BR
          have BD := Lib.hid BD
          have BU := Lib.hid BU
          have BG := Lib.hid BG
          have BT := Lib.hid BT
          have BN := Lib.hid BN
          have HW := Lib.hid HW
          clear hq
          obtain ⟨y00, y01⟩ := BU.out
          obtain ⟨y10, y11⟩ := BD.out
          go_wp2_with fail
          clear y00 y01 y10 y11
          refine (HF.out.sub _).mono ?_
          rintro e vh ⟨rfl, hB⟩
          have HW := Lib.hid (belowVia (alloc_below vh (.cells #[.string wn, .string wd] 23)) (belowVia hB HW.out))
          have BR := Lib.hid ((BR.out.via hB).via (alloc_below vh (.cells #[.string wn, .string wd] 23)))
          have BD := Lib.hid ((BD.out.via hB).via (alloc_below vh (.cells #[.string wn, .string wd] 23)))
          have BU := Lib.hid ((BU.out.via hB).via (alloc_below vh (.cells #[.string wn, .string wd] 23)))
          have BG := Lib.hid ((BG.out.via hB).via (alloc_below vh (.cells #[.string wn, .string wd] 23)))
          have BT := Lib.hid ((BT.out.via hB).via (alloc_below vh (.cells #[.string wn, .string wd] 23)))
          have BN := Lib.hid ((BN.out.via hB).via (alloc_below vh (.cells #[.string wn, .string wd] 23)))
          have BWD := Lib.hid (BoxQ.new vh wn wd)
          clear hB
          obtain ⟨y00, y01⟩ := BD.out
          obtain ⟨y10, y11⟩ := BR.out
          go_wp2_with fail
          clear y00 y01 y10 y11
          generalize vh.alloc (.cells #[.string wn, .string wd] 23) = xvh at *
          generalize vh.heap.size = pBWD at *
          refine (HF.out.cd _).mono ?_
          rintro e vi ⟨rfl, hB⟩
          have HW := Lib.hid (belowVia hB HW.out)
          have BR := Lib.hid (BR.out.via hB)
          have BD := Lib.hid (BD.out.via hB)
          have BU := Lib.hid (BU.out.via hB)
          have BG := Lib.hid (BG.out.via hB)
          have BT := Lib.hid (BT.out.via hB)
          have BN := Lib.hid (BN.out.via hB)
          have BWD := Lib.hid (BWD.out.via hB)
          clear hB
          go_wp2_with fail
          have HC2 := Lib.hid HF.out.cu
          have HFI := Lib.hid HF.out.fin
          clear HF
          refine (is_q _ _ _).mono ?_
          rintro e vj ⟨rfl, hB⟩
          have HW := Lib.hid (belowVia hB HW.out)
          have BR := Lib.hid (BR.out.via hB)
          have BU := Lib.hid (BU.out.via hB)
          have BG := Lib.hid (BG.out.via hB)
          have BT := Lib.hid (BT.out.via hB)
          have BN := Lib.hid (BN.out.via hB)
          have BWD := Lib.hid (BWD.out.via hB)
          have BD := Lib.hid (BD.out.via hB)
          clear hB
          have HNE : Hid (pr ≠ vj.heap.size ∧ pBU ≠ vj.heap.size ∧ pBG ≠ vj.heap.size ∧ pBT ≠ vj.heap.size ∧ pq ≠ vj.heap.size ∧ pBWD ≠ vj.heap.size ∧ pBD ≠ vj.heap.size) := ⟨Nat.ne_of_lt BR.out.lt, Nat.ne_of_lt BU.out.lt, Nat.ne_of_lt BG.out.lt, Nat.ne_of_lt BT.out.lt, Nat.ne_of_lt BN.out.lt, Nat.ne_of_lt BWD.out.lt, Nat.ne_of_lt BD.out.lt⟩
          have HGE : Hid (W.heap.size ≤ vj.heap.size) := HW.out.size
          have HW := Lib.hid (belowVia (alloc_below vj (.cells #[.string ⟨#[49]⟩, .string tb] 23)) HW.out)
          have BR := Lib.hid (BR.out.via (alloc_below vj (.cells #[.string ⟨#[49]⟩, .string tb] 23)))
          have BU := Lib.hid (BU.out.via (alloc_below vj (.cells #[.string ⟨#[49]⟩, .string tb] 23)))
          have BG := Lib.hid (BG.out.via (alloc_below vj (.cells #[.string ⟨#[49]⟩, .string tb] 23)))
          have BT := Lib.hid (BT.out.via (alloc_below vj (.cells #[.string ⟨#[49]⟩, .string tb] 23)))
          have BN := Lib.hid (BN.out.via (alloc_below vj (.cells #[.string ⟨#[49]⟩, .string tb] 23)))
          have BWD := Lib.hid (BWD.out.via (alloc_below vj (.cells #[.string ⟨#[49]⟩, .string tb] 23)))
          have BD := Lib.hid (BD.out.via (alloc_below vj (.cells #[.string ⟨#[49]⟩, .string tb] 23)))
          have WB := Lib.hid (heap_alloc_new vj (.cells #[.string ⟨#[49]⟩, .string tb] 23))
          rcases Nat.eq_zero_or_pos P with hP0 | hP0
          · obtain rfl := HT1.out hP0
            have hPz : (P : Int) = 0 := by omega
            clear HT1 hP0
            rcases HFI.out with ⟨rfl, rfl, rfl, rfl⟩ | ⟨rfl, rfl, rfl, rfl⟩
            · go_wp2_with fail
              generalize vj.alloc (.cells #[.string ⟨#[49]⟩, .string ⟨#[49]⟩] 23) = xw at *
              generalize vj.heap.size = pw at *
              refine (is_q _ _ _).mono ?_
              rintro e vk ⟨rfl, hB⟩
              have HW := Lib.hid (belowVia hB HW.out)
              have BR := Lib.hid (BR.out.via hB)
              have BU := Lib.hid (BU.out.via hB)
              have BG := Lib.hid (BG.out.via hB)
              have BT := Lib.hid (BT.out.via hB)
              have BN := Lib.hid (BN.out.via hB)
              have BWD := Lib.hid (BWD.out.via hB)
              have BD := Lib.hid (BD.out.via hB)
              have WB := Lib.hid (heap_below hB WB.out)
              clear hB
              obtain ⟨m0, m1⟩ := cell2 WB.out
              obtain ⟨m2, m3⟩ := cell2b WB.out
              go_wp2_with fail
              clear m0 m1 m2 m3
              have BR := Lib.hid (BR.out.set2 (a := .string ⟨#[49]⟩) (b := .string ⟨#[49]⟩) HNE.out.1)
              have BU := Lib.hid (BU.out.set2 (a := .string ⟨#[49]⟩) (b := .string ⟨#[49]⟩) HNE.out.2.1)
              have BG := Lib.hid (BG.out.set2 (a := .string ⟨#[49]⟩) (b := .string ⟨#[49]⟩) HNE.out.2.2.1)
              have BT := Lib.hid (BT.out.set2 (a := .string ⟨#[49]⟩) (b := .string ⟨#[49]⟩) HNE.out.2.2.2.1)
              have BN := Lib.hid (BN.out.set2 (a := .string ⟨#[49]⟩) (b := .string ⟨#[49]⟩) HNE.out.2.2.2.2.1)
              have BWD := Lib.hid (BWD.out.set2 (a := .string ⟨#[49]⟩) (b := .string ⟨#[49]⟩) HNE.out.2.2.2.2.2.1)
              have BD := Lib.hid (BD.out.set2 (a := .string ⟨#[49]⟩) (b := .string ⟨#[49]⟩) HNE.out.2.2.2.2.2.2)
              have WB := Lib.hid (want_set WB.out (.string ⟨#[49]⟩) (.string ⟨#[49]⟩))
              have HW := Lib.hid (below_set2 HW.out HGE.out (.string ⟨#[49]⟩) (.string ⟨#[49]⟩))
              generalize (vk.setCell ⟨pw, 0, none⟩ (.string ⟨#[49]⟩)).setCell ⟨pw, 1, none⟩ (.string ⟨#[49]⟩) = xk at *
              refine (is_q _ _ _).mono ?_
              rintro e vl ⟨rfl, hB⟩
              have HW := Lib.hid (belowVia hB HW.out)
              have BR := Lib.hid (BR.out.via hB)
              have BU := Lib.hid (BU.out.via hB)
              have BG := Lib.hid (BG.out.via hB)
              have BT := Lib.hid (BT.out.via hB)
              have BN := Lib.hid (BN.out.via hB)
              have BWD := Lib.hid (BWD.out.via hB)
              have BD := Lib.hid (BD.out.via hB)
              have WB := Lib.hid (heap_below hB WB.out)
              clear hB
              obtain ⟨m0, m1⟩ := cell2 WB.out
              obtain ⟨m2, m3⟩ := cell2b WB.out
              obtain ⟨y00, y01⟩ := BR.out
              obtain ⟨y10, y11⟩ := BU.out
              obtain ⟨y20, y21⟩ := BG.out
              obtain ⟨y30, y31⟩ := BT.out
              obtain ⟨y40, y41⟩ := BN.out
              obtain ⟨y50, y51⟩ := BWD.out
              obtain ⟨y60, y61⟩ := BD.out
              obtain ⟨i0, i1, i2, i3, i4, i5, i6⟩ := HNE.out
              go_wp2_with fail
              clear y00 y01 y10 y11 y20 y21 y30 y31 y40 y41 y50 y51 y60 y61 i0 i1 i2 i3 i4 i5 i6
              clear m0 m1 m2 m3
              have BR := Lib.hid (BR.out.set2 (a := .string ⟨#[48]⟩) (b := .string ⟨#[49]⟩) HNE.out.1)
              have BU := Lib.hid (BU.out.set2 (a := .string ⟨#[48]⟩) (b := .string ⟨#[49]⟩) HNE.out.2.1)
              have BG := Lib.hid (BG.out.set2 (a := .string ⟨#[48]⟩) (b := .string ⟨#[49]⟩) HNE.out.2.2.1)
              have BT := Lib.hid (BT.out.set2 (a := .string ⟨#[48]⟩) (b := .string ⟨#[49]⟩) HNE.out.2.2.2.1)
              have BN := Lib.hid (BN.out.set2 (a := .string ⟨#[48]⟩) (b := .string ⟨#[49]⟩) HNE.out.2.2.2.2.1)
              have BWD := Lib.hid (BWD.out.set2 (a := .string ⟨#[48]⟩) (b := .string ⟨#[49]⟩) HNE.out.2.2.2.2.2.1)
              have BD := Lib.hid (BD.out.set2 (a := .string ⟨#[48]⟩) (b := .string ⟨#[49]⟩) HNE.out.2.2.2.2.2.2)
              have WB := Lib.hid (want_set WB.out (.string ⟨#[48]⟩) (.string ⟨#[49]⟩))
              have HW := Lib.hid (below_set2 HW.out HGE.out (.string ⟨#[48]⟩) (.string ⟨#[49]⟩))
              generalize (vl.setCell ⟨pw, 0, none⟩ (.string ⟨#[48]⟩)).setCell ⟨pw, 1, none⟩ (.string ⟨#[49]⟩) = xl at *
              refine (HC2.out _).mono ?_
              rintro e vz ⟨rfl, hB⟩
              have HW := Lib.hid (belowVia hB HW.out)
              clear hB
              go_wp2_with fail
              go_ret
              exact ⟨rfl, HW.out⟩
            · go_wp2_with fail
              generalize vj.alloc (.cells #[.string ⟨#[49]⟩, .string ⟨#[49]⟩] 23) = xw at *
              generalize vj.heap.size = pw at *
              refine (is_q _ _ _).mono ?_
              rintro e vk ⟨rfl, hB⟩
              have HW := Lib.hid (belowVia hB HW.out)
              have BR := Lib.hid (BR.out.via hB)
              have BU := Lib.hid (BU.out.via hB)
              have BG := Lib.hid (BG.out.via hB)
              have BT := Lib.hid (BT.out.via hB)
              have BN := Lib.hid (BN.out.via hB)
              have BWD := Lib.hid (BWD.out.via hB)
              have BD := Lib.hid (BD.out.via hB)
              have WB := Lib.hid (heap_below hB WB.out)
              clear hB
              obtain ⟨m0, m1⟩ := cell2 WB.out
              obtain ⟨m2, m3⟩ := cell2b WB.out
              obtain ⟨y00, y01⟩ := BR.out
              obtain ⟨y10, y11⟩ := BU.out
              obtain ⟨y20, y21⟩ := BG.out
              obtain ⟨y30, y31⟩ := BT.out
              obtain ⟨y40, y41⟩ := BN.out
              obtain ⟨y50, y51⟩ := BWD.out
              obtain ⟨y60, y61⟩ := BD.out
              obtain ⟨i0, i1, i2, i3, i4, i5, i6⟩ := HNE.out
              go_wp2_with fail
              clear y00 y01 y10 y11 y20 y21 y30 y31 y40 y41 y50 y51 y60 y61 i0 i1 i2 i3 i4 i5 i6
              clear m0 m1 m2 m3
              have BR := Lib.hid (BR.out.set2 (a := .string ⟨#[49]⟩) (b := .string ⟨#[49]⟩) HNE.out.1)
              have BU := Lib.hid (BU.out.set2 (a := .string ⟨#[49]⟩) (b := .string ⟨#[49]⟩) HNE.out.2.1)
              have BG := Lib.hid (BG.out.set2 (a := .string ⟨#[49]⟩) (b := .string ⟨#[49]⟩) HNE.out.2.2.1)
              have BT := Lib.hid (BT.out.set2 (a := .string ⟨#[49]⟩) (b := .string ⟨#[49]⟩) HNE.out.2.2.2.1)
              have BN := Lib.hid (BN.out.set2 (a := .string ⟨#[49]⟩) (b := .string ⟨#[49]⟩) HNE.out.2.2.2.2.1)
              have BWD := Lib.hid (BWD.out.set2 (a := .string ⟨#[49]⟩) (b := .string ⟨#[49]⟩) HNE.out.2.2.2.2.2.1)
              have BD := Lib.hid (BD.out.set2 (a := .string ⟨#[49]⟩) (b := .string ⟨#[49]⟩) HNE.out.2.2.2.2.2.2)
              have WB := Lib.hid (want_set WB.out (.string ⟨#[49]⟩) (.string ⟨#[49]⟩))
              have HW := Lib.hid (below_set2 HW.out HGE.out (.string ⟨#[49]⟩) (.string ⟨#[49]⟩))
              generalize (vk.setCell ⟨pw, 0, none⟩ (.string ⟨#[49]⟩)).setCell ⟨pw, 1, none⟩ (.string ⟨#[49]⟩) = xk at *
              refine (HC2.out _).mono ?_
              rintro e vz ⟨rfl, hB⟩
              have HW := Lib.hid (belowVia hB HW.out)
              clear hB
              go_wp2_with fail
              go_ret
              exact ⟨rfl, HW.out⟩
          · have hPz : (0 : Int) < P := by omega
            clear HT1 hP0
            rcases HFI.out with ⟨rfl, rfl, rfl, rfl⟩ | ⟨rfl, rfl, rfl, rfl⟩
            · go_wp2_with fail
              generalize vj.alloc (.cells #[.string ⟨#[49]⟩, .string tb] 23) = xw at *
              generalize vj.heap.size = pw at *
              refine (is_q _ _ _).mono ?_
              rintro e vk ⟨rfl, hB⟩
              have HW := Lib.hid (belowVia hB HW.out)
              have BR := Lib.hid (BR.out.via hB)
              have BU := Lib.hid (BU.out.via hB)
              have BG := Lib.hid (BG.out.via hB)
              have BT := Lib.hid (BT.out.via hB)
              have BN := Lib.hid (BN.out.via hB)
              have BWD := Lib.hid (BWD.out.via hB)
              have BD := Lib.hid (BD.out.via hB)
              have WB := Lib.hid (heap_below hB WB.out)
              clear hB
              obtain ⟨m0, m1⟩ := cell2 WB.out
              obtain ⟨m2, m3⟩ := cell2b WB.out
              obtain ⟨y00, y01⟩ := BR.out
              obtain ⟨y10, y11⟩ := BU.out
              obtain ⟨y20, y21⟩ := BG.out
              obtain ⟨y30, y31⟩ := BT.out
              obtain ⟨y40, y41⟩ := BN.out
              obtain ⟨y50, y51⟩ := BWD.out
              obtain ⟨y60, y61⟩ := BD.out
              obtain ⟨i0, i1, i2, i3, i4, i5, i6⟩ := HNE.out
              go_wp2_with fail
              clear y00 y01 y10 y11 y20 y21 y30 y31 y40 y41 y50 y51 y60 y61 i0 i1 i2 i3 i4 i5 i6
              clear m0 m1 m2 m3
              have BR := Lib.hid (BR.out.set2 (a := .string ⟨#[48]⟩) (b := .string ⟨#[49]⟩) HNE.out.1)
              have BU := Lib.hid (BU.out.set2 (a := .string ⟨#[48]⟩) (b := .string ⟨#[49]⟩) HNE.out.2.1)
              have BG := Lib.hid (BG.out.set2 (a := .string ⟨#[48]⟩) (b := .string ⟨#[49]⟩) HNE.out.2.2.1)
              have BT := Lib.hid (BT.out.set2 (a := .string ⟨#[48]⟩) (b := .string ⟨#[49]⟩) HNE.out.2.2.2.1)
              have BN := Lib.hid (BN.out.set2 (a := .string ⟨#[48]⟩) (b := .string ⟨#[49]⟩) HNE.out.2.2.2.2.1)
              have BWD := Lib.hid (BWD.out.set2 (a := .string ⟨#[48]⟩) (b := .string ⟨#[49]⟩) HNE.out.2.2.2.2.2.1)
              have BD := Lib.hid (BD.out.set2 (a := .string ⟨#[48]⟩) (b := .string ⟨#[49]⟩) HNE.out.2.2.2.2.2.2)
              have WB := Lib.hid (want_set WB.out (.string ⟨#[48]⟩) (.string ⟨#[49]⟩))
              have HW := Lib.hid (below_set2 HW.out HGE.out (.string ⟨#[48]⟩) (.string ⟨#[49]⟩))
              generalize (vk.setCell ⟨pw, 0, none⟩ (.string ⟨#[48]⟩)).setCell ⟨pw, 1, none⟩ (.string ⟨#[49]⟩) = xk at *
              refine (HC2.out _).mono ?_
              rintro e vz ⟨rfl, hB⟩
              have HW := Lib.hid (belowVia hB HW.out)
              clear hB
              go_wp2_with fail
              go_ret
              exact ⟨rfl, HW.out⟩
            · obtain ⟨y00, y01⟩ := BR.out
              obtain ⟨y10, y11⟩ := BU.out
              obtain ⟨y20, y21⟩ := BG.out
              obtain ⟨y30, y31⟩ := BT.out
              obtain ⟨y40, y41⟩ := BN.out
              obtain ⟨y50, y51⟩ := BWD.out
              obtain ⟨y60, y61⟩ := BD.out
              obtain ⟨y70, y71⟩ := cell2 WB.out
              obtain ⟨y80, y81⟩ := cell2b WB.out
              go_wp2_with fail
              clear y00 y01 y10 y11 y20 y21 y30 y31 y40 y41 y50 y51 y60 y61 y70 y71 y80 y81
              generalize vj.alloc (.cells #[.string ⟨#[49]⟩, .string wd] 23) = xw at *
              generalize vj.heap.size = pw at *
              refine (HC2.out _).mono ?_
              rintro e vz ⟨rfl, hB⟩
              have HW := Lib.hid (belowVia hB HW.out)
              clear hB
              go_wp2_with fail
              go_ret
              exact ⟨rfl, HW.out⟩
end Go.Proofs.YtippeffbdjjcfaaGreatDoor
