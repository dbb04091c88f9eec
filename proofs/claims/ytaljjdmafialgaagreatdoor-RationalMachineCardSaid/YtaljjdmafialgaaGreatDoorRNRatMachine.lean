/- RationalMachine: what the law's body answers. -/
import Derived.Test.YtaljjdmafialgaaGreatDoorRM4
import Derived.Test.YtaljjdmafialgaaGreatDoorRN1
import Derived.Test.YtaljjdmafialgaaGreatDoorRN2
namespace Go.Proofs.YtaljjdmafialgaaGreatDoor
open Go.RowKit Putlog

/-- What a round of the law's loop calls and reckons. -/
structure Rnd (nB dB : ByteArray) (a b X Y z : Int) : Prop where
  tn : ∀ w, Calls Tryz.prog 37 #[.string nB] w fun e w' => e = .returned (.tuple #[.int .i64 a, .int .i64 0]) ∧ Below w.heap.size w w'
  td : ∀ w, Calls Tryz.prog 37 #[.string dB] w fun e w' => e = .returned (.tuple #[.int .i64 b, .int .i64 0]) ∧ Below w.heap.size w w'
  v : ∀ w, Calls Tryz.prog 29 #[.agg #[.string nB, .string dB]] w fun e w' => e = .returned (.bool true) ∧ Below w.heap.size w w'
  pos : 1 ≤ b
  e1 : IntKind.i64.wrap (a * Y) = z
  e2 : IntKind.i64.wrap (X * b) = z
theorem rnd_of {o : Option Rat} {X Y : Int} {r : Rat} (h : MOut o X Y r) (hX : X.natAbs ≤ 1800000000) (hY : Y.natAbs ≤ 900000000) : numB o = intB r.num ∧ denB o = intB r.den ∧ errQ o = 0 ∧ Rnd (intB r.num) (intB r.den) r.num r.den X Y (r.num * Y) := by
  have hf := h.fits
  have h1 := h.num
  have h2 := h.den
  have h3 := h.pos
  have b1 := mulb2 (a := r.num) (b := Y) h1 (by omega)
  have b2 := mulb2 (a := X) (b := r.den) hX (by omega)
  refine ⟨by rw [h.some]; rfl, by rw [h.some]; rfl, by rw [h.some]; rfl, fun w => rto_ok _ hf.1 (by unfold InInt; omega) w, fun w => rto_ok _ hf.2 (by unfold InInt; omega) w, fun w => ?_, h3, ?_, ?_⟩
  · refine (valid_q _ _ (sized_fits hf.1) (sized_fits hf.2) w).mono ?_
    rw [readQ_rat hf]
    exact fun e w' h => h
  · rw [IntKind.wrap_i64]; omega
  · rw [h.cross, IntKind.wrap_i64]; omega
/-- The boxes of the law behind its preparations. -/
structure MAt (pa pb pr pe pw : Nat) (a1 a2 b1 b2 : ByteArray) (rs es ws : Array Value) (w : World) : Prop where
  a : BoxQ pa a1 a2 w
  b : BoxQ pb b1 b2 w
  r : w.heap[pr]? = some (.cells rs 31 (0, 0))
  e : w.heap[pe]? = some (.cells es 33 (0, 0))
  x : w.heap[pw]? = some (.cells ws 51 (0, 0))
theorem MAt.via {pa pb pr pe pw : Nat} {a1 a2 b1 b2 : ByteArray} {rs es ws : Array Value} {w w' : World} (h : MAt pa pb pr pe pw a1 a2 b1 b2 rs es ws w) (hB : Below w.heap.size w w') : MAt pa pb pr pe pw a1 a2 b1 b2 rs es ws w' :=
  ⟨h.a.via hB, h.b.via hB, heap_below hB h.r, heap_below hB h.e, heap_below hB h.x⟩
set_option maxRecDepth 100000 in
set_option maxHeartbeats 8000000 in
theorem Machine_walk (n d m c pn pd pm pc N D M C NC MD S T DC NM DM sg a0 a3 c0 c3 a4 c4 a5 c5 z0 z1 z2 z3 k3 : Int) (a1 a2 b1 b2 n0 d0 n1 d1 n2 d2 n3 d3 : ByteArray) (W : World) (hT : TabP W)
    (hp1 : ∀ w, Calls Tryz.prog 22 #[.int .i64 n, .int .i64 60001] w fun e w' => e = .returned (.int .i64 pn) ∧ w' = w) (hp2 : ∀ w, Calls Tryz.prog 22 #[.int .i64 m, .int .i64 60001] w fun e w' => e = .returned (.int .i64 pm) ∧ w' = w)
    (hp3 : ∀ w, Calls Tryz.prog 22 #[.int .i64 d, .int .i64 30000] w fun e w' => e = .returned (.int .i64 pd) ∧ w' = w) (hp4 : ∀ w, Calls Tryz.prog 22 #[.int .i64 c, .int .i64 30000] w fun e w' => e = .returned (.int .i64 pc) ∧ w' = w)
    (eN : IntKind.i64.wrap (pn - 30000) = N) (eM : IntKind.i64.wrap (pm - 30000) = M) (eD : IntKind.i64.wrap (1 + pd) = D) (eC : IntKind.i64.wrap (1 + pc) = C)
    (ho1 : ∀ w, TabP w → Calls Tryz.prog 31 #[.int .i64 N, .int .i64 D] w fun e w' => e = .returned (.tuple #[.agg #[.string a1, .string a2], .int .i64 0]) ∧ Below w.heap.size w w')
    (ho2 : ∀ w, TabP w → Calls Tryz.prog 31 #[.int .i64 M, .int .i64 C] w fun e w' => e = .returned (.tuple #[.agg #[.string b1, .string b2], .int .i64 0]) ∧ Below w.heap.size w w')
    (hf : ∀ w, Calls Tryz.prog 15 #[.agg #[.string a1, .string a2], .agg #[.string b1, .string b2]] w fun e w' => e = .returned (.tuple #[.agg #[.string n0, .string d0, .string n1, .string d1, .string n2, .string d2, .string n3, .string d3], .agg #[.int .i64 0, .int .i64 0, .int .i64 0, .int .i64 k3]]) ∧ Below w.heap.size w w')
    (hc : ∀ w, Calls Tryz.prog 20 #[.agg #[.string a1, .string a2], .agg #[.string b1, .string b2]] w fun e w' => e = .returned (.int .i64 sg) ∧ Below w.heap.size w w')
    (x1 : IntKind.i64.wrap (N * C) = NC) (x2 : IntKind.i64.wrap (M * D) = MD) (x3 : IntKind.i64.wrap (NC + MD) = S) (x4 : IntKind.i64.wrap (NC - MD) = T) (x5 : IntKind.i64.wrap (D * C) = DC) (x6 : IntKind.i64.wrap (N * M) = NM) (x7 : IntKind.i64.wrap (D * M) = DM)
    (R0 : Rnd n0 d0 a0 c0 S DC z0) (R1 : Rnd n1 d1 a3 c3 T DC z1) (R2 : Rnd n2 d2 a4 c4 NM DC z2) (R3 : (M ≠ 0 ∧ k3 = 0 ∧ Rnd n3 d3 a5 c5 NC DM z3) ∨ (M = 0 ∧ k3 = 40 ∧ n3 = ⟨#[]⟩ ∧ d3 = ⟨#[]⟩))
    (hsg : (NC < MD ∧ sg = -1) ∨ (NC = MD ∧ sg = 0) ∨ (MD < NC ∧ sg = 1)) :
    Calls Tryz.prog 5 #[.int .i64 n, .int .i64 d, .int .i64 m, .int .i64 c] W fun e w' => e = .returned (.bool true) ∧ Below W.heap.size W w' := by
  have HS := Lib.hid (sane_q W hT)
  have HT := Lib.hid hT
  have HO1 := Lib.hid ho1
  have HO2 := Lib.hid ho2
  have HF := Lib.hid hf
  have HC := Lib.hid hc
  have HR0 := Lib.hid R0
  have HR1 := Lib.hid R1
  have HR2 := Lib.hid R2
  have HR3 := Lib.hid R3
  have HSG := Lib.hid hsg
  clear hT ho1 ho2 hf hc R0 R1 R2 R3 hsg
  go_enter Tryz.func5, Tryz.ntmps5
  go_wp2_with fail
  refine HS.out.mono ?_
  rintro e w1 ⟨rfl, hB⟩
  have HW := Lib.hid hB
  have HT := Lib.hid (HT.out.via hB)
  clear hB
  go_wp2_with fail
  refine (hp1 w1).mono ?_
  rintro e w2 ⟨rfl, rfl⟩
  go_wp2_with fail
  refine (hp2 w2).mono ?_
  rintro e w3 ⟨rfl, rfl⟩
  go_wp2_with fail
  refine (hp3 w3).mono ?_
  rintro e w4 ⟨rfl, rfl⟩
  go_wp2_with fail
  refine (hp4 w4).mono ?_
  rintro e w5 ⟨rfl, rfl⟩
  go_wp2_with fail
  refine (HO1.out w5 HT.out).mono ?_
  rintro e w6 ⟨rfl, hB⟩
  have HW := Lib.hid (belowVia hB HW.out)
  have HT := Lib.hid (HT.out.via hB)
  clear hB
  go_wp2_with fail
  have BA := Lib.hid (BoxQ.new w6 a1 a2)
  have HW := Lib.hid (belowVia (alloc_below w6 (.cells #[.string a1, .string a2] 23)) HW.out)
  have HT := Lib.hid (HT.out.via (alloc_below w6 (.cells #[.string a1, .string a2] 23)))
  generalize w6.alloc (.cells #[.string a1, .string a2] 23) = v6 at *
  generalize w6.heap.size = pa at *
  refine (HO2.out v6 HT.out).mono ?_
  rintro e w7 ⟨rfl, hB⟩
  have HW := Lib.hid (belowVia hB HW.out)
  have BA := Lib.hid (BA.out.via hB)
  clear hB HT
  obtain ⟨y0, y1⟩ := BoxQ.new w7 b1 b2
  obtain ⟨u0, u1⟩ := BA.out.via (alloc_below w7 (.cells #[.string b1, .string b2] 23))
  go_wp2_with fail
  clear y0 y1 u0 u1
  have BA := Lib.hid (BA.out.via (alloc_below w7 (.cells #[.string b1, .string b2] 23)))
  have BB := Lib.hid (BoxQ.new w7 b1 b2)
  have HW := Lib.hid (belowVia (alloc_below w7 (.cells #[.string b1, .string b2] 23)) HW.out)
  generalize w7.alloc (.cells #[.string b1, .string b2] 23) = v7 at *
  generalize w7.heap.size = pb at *
  refine (HF.out v7).mono ?_
  rintro e w8 ⟨rfl, hB⟩
  have HW := Lib.hid (belowVia hB HW.out)
  have BA := Lib.hid (BA.out.via hB)
  have BB := Lib.hid (BB.out.via hB)
  clear hB
  go_wp2_with fail
  have HM : Hid (MAt pa pb w8.heap.size (w8.heap.size + 1) (w8.heap.size + 1 + 1) a1 a2 b1 b2 #[.string n0, .string d0, .string n1, .string d1, .string n2, .string d2, .string n3, .string d3] #[.int .i64 0, .int .i64 0, .int .i64 0, .int .i64 k3] #[.int .i64 S, .int .i64 DC, .int .i64 T, .int .i64 DC, .int .i64 NM, .int .i64 DC, .int .i64 NC, .int .i64 DM] (((w8.alloc (.cells #[.string n0, .string d0, .string n1, .string d1, .string n2, .string d2, .string n3, .string d3] 31)).alloc (.cells #[.int .i64 0, .int .i64 0, .int .i64 0, .int .i64 k3] 33)).alloc (.cells #[.int .i64 S, .int .i64 DC, .int .i64 T, .int .i64 DC, .int .i64 NM, .int .i64 DC, .int .i64 NC, .int .i64 DM] 51))) := by
    have h1 := alloc_below w8 (.cells #[.string n0, .string d0, .string n1, .string d1, .string n2, .string d2, .string n3, .string d3] 31)
    have h2 := alloc_below (w8.alloc (.cells #[.string n0, .string d0, .string n1, .string d1, .string n2, .string d2, .string n3, .string d3] 31)) (.cells #[.int .i64 0, .int .i64 0, .int .i64 0, .int .i64 k3] 33)
    have h3 := alloc_below ((w8.alloc (.cells #[.string n0, .string d0, .string n1, .string d1, .string n2, .string d2, .string n3, .string d3] 31)).alloc (.cells #[.int .i64 0, .int .i64 0, .int .i64 0, .int .i64 k3] 33)) (.cells #[.int .i64 S, .int .i64 DC, .int .i64 T, .int .i64 DC, .int .i64 NM, .int .i64 DC, .int .i64 NC, .int .i64 DM] 51)
    have g1 := heap_alloc_new w8 (.cells #[.string n0, .string d0, .string n1, .string d1, .string n2, .string d2, .string n3, .string d3] 31)
    have g2 := heap_alloc_new (w8.alloc (.cells #[.string n0, .string d0, .string n1, .string d1, .string n2, .string d2, .string n3, .string d3] 31)) (.cells #[.int .i64 0, .int .i64 0, .int .i64 0, .int .i64 k3] 33)
    have g3 := heap_alloc_new ((w8.alloc (.cells #[.string n0, .string d0, .string n1, .string d1, .string n2, .string d2, .string n3, .string d3] 31)).alloc (.cells #[.int .i64 0, .int .i64 0, .int .i64 0, .int .i64 k3] 33)) (.cells #[.int .i64 S, .int .i64 DC, .int .i64 T, .int .i64 DC, .int .i64 NM, .int .i64 DC, .int .i64 NC, .int .i64 DM] 51)
    simp only [alloc_size] at g2 g3
    exact ⟨((BA.out.via h1).via h2).via h3, ((BB.out.via h1).via h2).via h3, heap_below h3 (heap_below h2 g1), heap_below h3 g2, g3⟩
  have HW : Hid (Below W.heap.size W (((w8.alloc (.cells #[.string n0, .string d0, .string n1, .string d1, .string n2, .string d2, .string n3, .string d3] 31)).alloc (.cells #[.int .i64 0, .int .i64 0, .int .i64 0, .int .i64 k3] 33)).alloc (.cells #[.int .i64 S, .int .i64 DC, .int .i64 T, .int .i64 DC, .int .i64 NM, .int .i64 DC, .int .i64 NC, .int .i64 DM] 51))) := belowVia (alloc_below _ _) (belowVia (alloc_below _ _) (belowVia (alloc_below _ _) HW.out))
  clear BA BB
  generalize ((w8.alloc (.cells #[.string n0, .string d0, .string n1, .string d1, .string n2, .string d2, .string n3, .string d3] 31)).alloc (.cells #[.int .i64 0, .int .i64 0, .int .i64 0, .int .i64 k3] 33)).alloc (.cells #[.int .i64 S, .int .i64 DC, .int .i64 T, .int .i64 DC, .int .i64 NM, .int .i64 DC, .int .i64 NC, .int .i64 DM] 51) = v8 at *
  generalize w8.heap.size = pr at *
  go_loopw [17] (fun i wr => ∃ k : Nat, k ≤ 4 ∧ i = .int .i64 k ∧ MAt pa pb pr (pr + 1) (pr + 1 + 1) a1 a2 b1 b2 #[.string n0, .string d0, .string n1, .string d1, .string n2, .string d2, .string n3, .string d3] #[.int .i64 0, .int .i64 0, .int .i64 0, .int .i64 k3] #[.int .i64 S, .int .i64 DC, .int .i64 T, .int .i64 DC, .int .i64 NM, .int .i64 DC, .int .i64 NC, .int .i64 DM] wr ∧ Below W.heap.size W wr) (fun i _ => 4 - (intOf i).toNat)
  case atStart => exact ⟨0, by omega, rfl, HM.out, HW.out⟩
  case round =>
    clear HM HW
    obtain ⟨k, hk, rfl, hM, hW⟩ := hrel
    have HM := Lib.hid hM
    have HW := Lib.hid hW
    clear hM hW
    rcases k with _ | _ | _ | _ | k
    · have HRN := Lib.hid HR0.out
      obtain ⟨tn, td, tv, tp, t1, t2⟩ := HRN.out
      have HV := Lib.hid tv
      clear tv
      have q0 := (cell_of_row wr _ 0 _ _ _ HM.out.r).trans (by rfl : _ = some (.string n0))
      have q1 := (cell_of_row wr _ 1 _ _ _ HM.out.r).trans (by rfl : _ = some (.string d0))
      go_wp2_with fail
      clear q0 q1
      refine (tn wr).mono ?_
      rintro e u1 ⟨rfl, hB⟩
      have HM := Lib.hid (HM.out.via hB)
      have HW := Lib.hid (belowVia hB HW.out)
      clear hB
      have q1 := (cell_of_row u1 _ 1 _ _ _ HM.out.r).trans (by rfl : _ = some (.string d0))
      go_wp2_with fail
      clear q1
      refine (td u1).mono ?_
      rintro e u2 ⟨rfl, hB⟩
      have HM := Lib.hid (HM.out.via hB)
      have HW := Lib.hid (belowVia hB HW.out)
      clear hB
      have q0 := (cell_of_row u2 _ 0 _ _ _ HM.out.r).trans (by rfl : _ = some (.string n0))
      have q1 := (cell_of_row u2 _ 1 _ _ _ HM.out.r).trans (by rfl : _ = some (.string d0))
      have q2 := (cell_of_row u2 _ 0 _ _ _ HM.out.e).trans (by rfl : _ = some (.int .i64 0))
      have q3 := (cell_of_row u2 _ 0 _ _ _ HM.out.x).trans (by rfl : _ = some (.int .i64 S))
      have q4 := (cell_of_row u2 _ 1 _ _ _ HM.out.x).trans (by rfl : _ = some (.int .i64 DC))
      go_wp2_with fail
      have hd : decide (c0 < 1) = false := decide_eq_false (by omega)
      clear tn td
      go_region_held3 (fun w' => w'.cell? ⟨pr, 0, none⟩ = some (.string n0) ∧ w'.cell? ⟨pr, 1, none⟩ = some (.string d0) ∧ w'.cell? ⟨pr + 1, 0, none⟩ = some (.int .i64 0) ∧ w'.cell? ⟨pr + 1 + 1, 0, none⟩ = some (.int .i64 S) ∧ w'.cell? ⟨pr + 1 + 1, 1, none⟩ = some (.int .i64 DC)) (first | exact ⟨q0, q1, q2, q3, q4⟩ | exact ⟨keptBelow hB3 q0, keptBelow hB3 q1, keptBelow hB3 q2, keptBelow hB3 q3, keptBelow hB3 q4⟩)
        (first | (go_at_call 29; (with_reducible refine (HV.out _).mono ?_); rintro e u3 ⟨rfl, hB3⟩))
      all_goals
        have hB4 := undrew hB3
        clear q0 q1 q2 q3 q4
        go_wp2_with fail
        go_roundw
        case rel => exact ⟨1, by omega, by go_num, HM.out.via hB4, belowVia hB4 HW.out⟩
        case measure => simp [intOf]
    · have HRN := Lib.hid HR1.out
      obtain ⟨tn, td, tv, tp, t1, t2⟩ := HRN.out
      have HV := Lib.hid tv
      clear tv
      have q0 := (cell_of_row wr _ 2 _ _ _ HM.out.r).trans (by rfl : _ = some (.string n1))
      have q1 := (cell_of_row wr _ 3 _ _ _ HM.out.r).trans (by rfl : _ = some (.string d1))
      go_wp2_with fail
      clear q0 q1
      refine (tn wr).mono ?_
      rintro e u1 ⟨rfl, hB⟩
      have HM := Lib.hid (HM.out.via hB)
      have HW := Lib.hid (belowVia hB HW.out)
      clear hB
      have q1 := (cell_of_row u1 _ 3 _ _ _ HM.out.r).trans (by rfl : _ = some (.string d1))
      go_wp2_with fail
      clear q1
      refine (td u1).mono ?_
      rintro e u2 ⟨rfl, hB⟩
      have HM := Lib.hid (HM.out.via hB)
      have HW := Lib.hid (belowVia hB HW.out)
      clear hB
      have q0 := (cell_of_row u2 _ 2 _ _ _ HM.out.r).trans (by rfl : _ = some (.string n1))
      have q1 := (cell_of_row u2 _ 3 _ _ _ HM.out.r).trans (by rfl : _ = some (.string d1))
      have q2 := (cell_of_row u2 _ 1 _ _ _ HM.out.e).trans (by rfl : _ = some (.int .i64 0))
      have q3 := (cell_of_row u2 _ 2 _ _ _ HM.out.x).trans (by rfl : _ = some (.int .i64 T))
      have q4 := (cell_of_row u2 _ 3 _ _ _ HM.out.x).trans (by rfl : _ = some (.int .i64 DC))
      go_wp2_with fail
      have hd : decide (c3 < 1) = false := decide_eq_false (by omega)
      clear tn td
      go_region_held3 (fun w' => w'.cell? ⟨pr, 2, none⟩ = some (.string n1) ∧ w'.cell? ⟨pr, 3, none⟩ = some (.string d1) ∧ w'.cell? ⟨pr + 1, 1, none⟩ = some (.int .i64 0) ∧ w'.cell? ⟨pr + 1 + 1, 2, none⟩ = some (.int .i64 T) ∧ w'.cell? ⟨pr + 1 + 1, 3, none⟩ = some (.int .i64 DC)) (first | exact ⟨q0, q1, q2, q3, q4⟩ | exact ⟨keptBelow hB3 q0, keptBelow hB3 q1, keptBelow hB3 q2, keptBelow hB3 q3, keptBelow hB3 q4⟩)
        (first | (go_at_call 29; (with_reducible refine (HV.out _).mono ?_); rintro e u3 ⟨rfl, hB3⟩))
      all_goals
        have hB4 := undrew hB3
        clear q0 q1 q2 q3 q4
        go_wp2_with fail
        go_roundw
        case rel => exact ⟨2, by omega, by go_num, HM.out.via hB4, belowVia hB4 HW.out⟩
        case measure => simp [intOf]
    · have HRN := Lib.hid HR2.out
      obtain ⟨tn, td, tv, tp, t1, t2⟩ := HRN.out
      have HV := Lib.hid tv
      clear tv
      have q0 := (cell_of_row wr _ 4 _ _ _ HM.out.r).trans (by rfl : _ = some (.string n2))
      have q1 := (cell_of_row wr _ 5 _ _ _ HM.out.r).trans (by rfl : _ = some (.string d2))
      go_wp2_with fail
      clear q0 q1
      refine (tn wr).mono ?_
      rintro e u1 ⟨rfl, hB⟩
      have HM := Lib.hid (HM.out.via hB)
      have HW := Lib.hid (belowVia hB HW.out)
      clear hB
      have q1 := (cell_of_row u1 _ 5 _ _ _ HM.out.r).trans (by rfl : _ = some (.string d2))
      go_wp2_with fail
      clear q1
      refine (td u1).mono ?_
      rintro e u2 ⟨rfl, hB⟩
      have HM := Lib.hid (HM.out.via hB)
      have HW := Lib.hid (belowVia hB HW.out)
      clear hB
      have q0 := (cell_of_row u2 _ 4 _ _ _ HM.out.r).trans (by rfl : _ = some (.string n2))
      have q1 := (cell_of_row u2 _ 5 _ _ _ HM.out.r).trans (by rfl : _ = some (.string d2))
      have q2 := (cell_of_row u2 _ 2 _ _ _ HM.out.e).trans (by rfl : _ = some (.int .i64 0))
      have q3 := (cell_of_row u2 _ 4 _ _ _ HM.out.x).trans (by rfl : _ = some (.int .i64 NM))
      have q4 := (cell_of_row u2 _ 5 _ _ _ HM.out.x).trans (by rfl : _ = some (.int .i64 DC))
      go_wp2_with fail
      have hd : decide (c4 < 1) = false := decide_eq_false (by omega)
      clear tn td
      go_region_held3 (fun w' => w'.cell? ⟨pr, 4, none⟩ = some (.string n2) ∧ w'.cell? ⟨pr, 5, none⟩ = some (.string d2) ∧ w'.cell? ⟨pr + 1, 2, none⟩ = some (.int .i64 0) ∧ w'.cell? ⟨pr + 1 + 1, 4, none⟩ = some (.int .i64 NM) ∧ w'.cell? ⟨pr + 1 + 1, 5, none⟩ = some (.int .i64 DC)) (first | exact ⟨q0, q1, q2, q3, q4⟩ | exact ⟨keptBelow hB3 q0, keptBelow hB3 q1, keptBelow hB3 q2, keptBelow hB3 q3, keptBelow hB3 q4⟩)
        (first | (go_at_call 29; (with_reducible refine (HV.out _).mono ?_); rintro e u3 ⟨rfl, hB3⟩))
      all_goals
        have hB4 := undrew hB3
        clear q0 q1 q2 q3 q4
        go_wp2_with fail
        go_roundw
        case rel => exact ⟨3, by omega, by go_num, HM.out.via hB4, belowVia hB4 HW.out⟩
        case measure => simp [intOf]
    · rcases HR3.out with ⟨hM0, rfl, hR⟩ | ⟨rfl, rfl, rfl, rfl⟩
      · have HRN := Lib.hid hR
        obtain ⟨tn, td, tv, tp, t1, t2⟩ := HRN.out
        have HV := Lib.hid tv
        clear tv
        have q0 := (cell_of_row wr _ 6 _ _ _ HM.out.r).trans (by rfl : _ = some (.string n3))
        have q1 := (cell_of_row wr _ 7 _ _ _ HM.out.r).trans (by rfl : _ = some (.string d3))
        go_wp2_with fail
        clear q0 q1
        refine (tn wr).mono ?_
        rintro e u1 ⟨rfl, hB⟩
        have HM := Lib.hid (HM.out.via hB)
        have HW := Lib.hid (belowVia hB HW.out)
        clear hB
        have q1 := (cell_of_row u1 _ 7 _ _ _ HM.out.r).trans (by rfl : _ = some (.string d3))
        go_wp2_with fail
        clear q1
        refine (td u1).mono ?_
        rintro e u2 ⟨rfl, hB⟩
        have HM := Lib.hid (HM.out.via hB)
        have HW := Lib.hid (belowVia hB HW.out)
        clear hB
        have q0 := (cell_of_row u2 _ 6 _ _ _ HM.out.r).trans (by rfl : _ = some (.string n3))
        have q1 := (cell_of_row u2 _ 7 _ _ _ HM.out.r).trans (by rfl : _ = some (.string d3))
        have q2 := (cell_of_row u2 _ 3 _ _ _ HM.out.e).trans (by rfl : _ = some (.int .i64 0))
        have q3 := (cell_of_row u2 _ 6 _ _ _ HM.out.x).trans (by rfl : _ = some (.int .i64 NC))
        have q4 := (cell_of_row u2 _ 7 _ _ _ HM.out.x).trans (by rfl : _ = some (.int .i64 DM))
        go_wp2_with fail
        have hd : decide (c5 < 1) = false := decide_eq_false (by omega)
        clear tn td
        go_region_held3 (fun w' => w'.cell? ⟨pr, 6, none⟩ = some (.string n3) ∧ w'.cell? ⟨pr, 7, none⟩ = some (.string d3) ∧ w'.cell? ⟨pr + 1, 3, none⟩ = some (.int .i64 0) ∧ w'.cell? ⟨pr + 1 + 1, 6, none⟩ = some (.int .i64 NC) ∧ w'.cell? ⟨pr + 1 + 1, 7, none⟩ = some (.int .i64 DM)) (first | exact ⟨q0, q1, q2, q3, q4⟩ | exact ⟨keptBelow hB3 q0, keptBelow hB3 q1, keptBelow hB3 q2, keptBelow hB3 q3, keptBelow hB3 q4⟩)
          (first | (go_at_call 29; (with_reducible refine (HV.out _).mono ?_); rintro e u3 ⟨rfl, hB3⟩))
        all_goals
          have hB4 := undrew hB3
          clear q0 q1 q2 q3 q4
          go_wp2_with fail
          go_roundw
          case rel => exact ⟨4, by omega, by go_num, HM.out.via hB4, belowVia hB4 HW.out⟩
          case measure => simp [intOf]
      · have q0 := (cell_of_row wr _ 6 _ _ _ HM.out.r).trans (by rfl : _ = some (.string ⟨#[]⟩))
        have q1 := (cell_of_row wr _ 7 _ _ _ HM.out.r).trans (by rfl : _ = some (.string ⟨#[]⟩))
        have q2 := (cell_of_row wr _ 3 _ _ _ HM.out.e).trans (by rfl : _ = some (.int .i64 40))
        go_wp2_with fail
        go_roundw
        case rel => exact ⟨4, by omega, by go_num, HM.out, HW.out⟩
        case measure => simp [intOf]
    · obtain rfl : k = 0 := by omega
      rcases HSG.out with ⟨hg, rfl⟩ | ⟨hg, rfl⟩ | ⟨hg, rfl⟩
      · obtain ⟨y0, y1⟩ := HM.out.a
        obtain ⟨u0, u1⟩ := HM.out.b
        go_wp2_with fail
        refine (HC.out _).mono ?_
        rintro e u9 ⟨rfl, hB⟩
        have HW := Lib.hid (belowVia hB HW.out)
        clear hB
        go_wp2_with fail
        go_ret
        exact ⟨rfl, HW.out⟩
      · obtain ⟨y0, y1⟩ := HM.out.a
        obtain ⟨u0, u1⟩ := HM.out.b
        go_wp2_with fail
        refine (HC.out _).mono ?_
        rintro e u9 ⟨rfl, hB⟩
        have HW := Lib.hid (belowVia hB HW.out)
        clear hB
        go_wp2_with fail
        go_ret
        exact ⟨rfl, HW.out⟩
      · obtain ⟨y0, y1⟩ := HM.out.a
        obtain ⟨u0, u1⟩ := HM.out.b
        go_wp2_with fail
        refine (HC.out _).mono ?_
        rintro e u9 ⟨rfl, hB⟩
        have HW := Lib.hid (belowVia hB HW.out)
        clear hB
        go_wp2_with fail
        go_ret
        exact ⟨rfl, HW.out⟩
end Go.Proofs.YtaljjdmafialgaaGreatDoor
