/- Several texts of layers 3 and 4, one behind the other: RatRefOps, RatRefGrid, RatRefCmp, RatMatF. -/
import Derived.Test.YtelckldddflmmaaGreatDoorRM6
import Derived.ChangeKeysEq
import Derived.Laws.StructEq
import Derived.Test.YtelckldddflmmaaGreatDoorRP1
/- RatRefOps: The reference's cross, Add, Sub, Mul and Div. -/
namespace Go.Proofs.YtelckldddflmmaaGreatDoor
open Go.RowKit Putlog

def CrossC (x1 x2 y1 y2 X Y D : ByteArray) (ok : Bool) : Prop := ∀ w, Calls Tryz.prog 38 #[.agg #[.string x1, .string x2], .agg #[.string y1, .string y2]] w fun e w' => e = .returned (.tuple #[.string X, .string Y, .string D, .bool ok]) ∧ Below w.heap.size w w'
def ValidC (x1 x2 : ByteArray) (v : Bool) : Prop := ∀ w, Calls Tryz.prog 25 #[.agg #[.string x1, .string x2]] w fun e w' => e = .returned (.bool v) ∧ Below w.heap.size w w'
def IntC (f : FuncId) (x y z : ByteArray) (e : Int) : Prop := ∀ w, Calls Tryz.prog f #[.string x, .string y] w fun r w' => r = .returned (.tuple #[.string z, .int .i64 e]) ∧ Below w.heap.size w w'
def MakeC (x y : ByteArray) (o : Option Rat) : Prop := ∀ w, Calls Tryz.prog 23 #[.string x, .string y] w fun r w' => r = .returned (.tuple #[.agg #[.string (numB o), .string (denB o)], .int .i64 (errQ o)]) ∧ Below w.heap.size w w'
structure Boxes2 (p : Nat) (x1 x2 y1 y2 : ByteArray) (w : World) : Prop where
  a0 : w.cell? ⟨p, 0, none⟩ = some (.string x1)
  a1 : w.cell? ⟨p, 1, none⟩ = some (.string x2)
  b0 : w.cell? ⟨p + 1, 0, none⟩ = some (.string y1)
  b1 : w.cell? ⟨p + 1, 1, none⟩ = some (.string y2)
theorem Boxes2.via {p : Nat} {x1 x2 y1 y2 : ByteArray} {w w' : World} (h : Boxes2 p x1 x2 y1 y2 w) (hB : Below w.heap.size w w') : Boxes2 p x1 x2 y1 y2 w' := ⟨keptBelow hB h.a0, keptBelow hB h.a1, keptBelow hB h.b0, keptBelow hB h.b1⟩
theorem Boxes2.new (w : World) (x1 x2 y1 y2 : ByteArray) : Boxes2 w.heap.size x1 x2 y1 y2 ((w.alloc (.cells #[.string x1, .string x2] 23)).alloc (.cells #[.string y1, .string y2] 23)) := by
  have h := heap_alloc_new (w.alloc (.cells #[.string x1, .string x2] 23)) (.cells #[.string y1, .string y2] 23)
  rw [show (w.alloc (.cells #[.string x1, .string x2] 23)).heap.size = w.heap.size + 1 by simp] at h
  have g := heap_below (alloc_below (w.alloc (.cells #[.string x1, .string x2] 23)) (.cells #[.string y1, .string y2] 23)) (heap_alloc_new w (.cells #[.string x1, .string x2] 23))
  exact ⟨(cell2 g).1, (cell2b g).1, (cell2 h).1, (cell2b h).1⟩
theorem results_tmp4 {fn : Func} {t u v z : Tmp} (h : fn.results = #[.tmp t, .tmp u, .tmp v, .tmp z]) (tmps : Array Value) (P : Program) (w : World) :
    (results fn tmps).run P w = .ok (.tuple #[tmps.getD t undef, tmps.getD u undef, tmps.getD v undef, tmps.getD z undef]) w := by
  simp [results, h]
theorem okE_cases (z : Int) : (Fits z ∧ okE z = 0 ∧ okS z = intB z) ∨ (¬ Fits z ∧ okE z = 30) := by
  by_cases h : Fits z
  · exact .inl ⟨h, okE_fits h, okS_fits h⟩
  · exact .inr ⟨h, by unfold okE; rw [if_neg h]⟩
theorem rmul_c {a b : Int} (ha : Fits a) (hb : Fits b) : IntC 41 (intB a) (intB b) (okS (a * b)) (okE (a * b)) := fun w => rmul_ok a b ha hb w
set_option maxRecDepth 100000 in
set_option maxHeartbeats 4000000 in
theorem cross_w (x1 x2 y1 y2 X Y D : ByteArray) (v1 v2 : Bool) (e f g : Int) (hv1 : ValidC x1 x2 v1) (hv2 : ValidC y1 y2 v2) (hX : v1 = true → v2 = true → IntC 41 x1 y2 X e) (hY : v1 = true → v2 = true → IntC 41 y1 x2 Y f) (hD : v1 = true → v2 = true → IntC 41 x2 y2 D g) (he : e = 0 ∨ e = 30) (hf : f = 0 ∨ f = 30) (hg : g = 0 ∨ g = 30) :
    if v1 = true ∧ v2 = true then CrossC x1 x2 y1 y2 X Y D (decide (e = 0 ∧ f = 0 ∧ g = 0)) else CrossC x1 x2 y1 y2 ⟨#[]⟩ ⟨#[]⟩ ⟨#[]⟩ false := by
  have V1 := Lib.hid hv1
  have V2 := Lib.hid hv2
  have MX := Lib.hid hX
  have MY := Lib.hid hY
  have MD := Lib.hid hD
  clear hv1 hv2 hX hY hD
  cases v1 with
  | false =>
    rw [if_neg (by simp)]
    intro W
    go_enter Tryz.func38, Tryz.ntmps38
    have HBX := Lib.hid (Boxes2.new W x1 x2 y1 y2)
    obtain ⟨k0, k1, k2, k3⟩ := HBX.out
    have HW := Lib.hid (belowVia (alloc_below (W.alloc (.cells #[.string x1, .string x2] 23)) (.cells #[.string y1, .string y2] 23)) (alloc_below W (.cells #[.string x1, .string x2] 23)))
    go_wp2_with fail
    clear k0 k1 k2 k3
    generalize (W.alloc (.cells #[.string x1, .string x2] 23)).alloc (.cells #[.string y1, .string y2] 23) = w0 at *
    refine (V1.out w0).mono ?_
    rintro e1 w1 ⟨rfl, hB⟩
    have HW := Lib.hid (belowVia hB HW.out)
    have HBX := Lib.hid (HBX.out.via hB)
    clear hB
    obtain ⟨k0, k1, k2, k3⟩ := HBX.out
    go_wp2_with fail
    clear k0 k1 k2 k3
    refine (V2.out w1).mono ?_
    rintro e2 w2 ⟨rfl, hB⟩
    have HW := Lib.hid (belowVia hB HW.out)
    clear hB
    go_wp2_with fail
    (try simp only [Exit.inBlock, Exit.then]); refine bodyPost_ret (results_tmp4 rfl _ _ _) rfl ?_
    exact ⟨rfl, HW.out⟩
  | true =>
    cases v2 with
    | false =>
      rw [if_neg (by simp)]
      intro W
      go_enter Tryz.func38, Tryz.ntmps38
      have HBX := Lib.hid (Boxes2.new W x1 x2 y1 y2)
      obtain ⟨k0, k1, k2, k3⟩ := HBX.out
      have HW := Lib.hid (belowVia (alloc_below (W.alloc (.cells #[.string x1, .string x2] 23)) (.cells #[.string y1, .string y2] 23)) (alloc_below W (.cells #[.string x1, .string x2] 23)))
      go_wp2_with fail
      clear k0 k1 k2 k3
      generalize (W.alloc (.cells #[.string x1, .string x2] 23)).alloc (.cells #[.string y1, .string y2] 23) = w0 at *
      refine (V1.out w0).mono ?_
      rintro e1 w1 ⟨rfl, hB⟩
      have HW := Lib.hid (belowVia hB HW.out)
      have HBX := Lib.hid (HBX.out.via hB)
      clear hB
      obtain ⟨k0, k1, k2, k3⟩ := HBX.out
      go_wp2_with fail
      clear k0 k1 k2 k3
      refine (V2.out w1).mono ?_
      rintro e2 w2 ⟨rfl, hB⟩
      have HW := Lib.hid (belowVia hB HW.out)
      clear hB
      go_wp2_with fail
      (try simp only [Exit.inBlock, Exit.then]); refine bodyPost_ret (results_tmp4 rfl _ _ _) rfl ?_
      exact ⟨rfl, HW.out⟩
    | true =>
      rw [if_pos ⟨rfl, rfl⟩]
      intro W
      go_enter Tryz.func38, Tryz.ntmps38
      have HBX := Lib.hid (Boxes2.new W x1 x2 y1 y2)
      obtain ⟨k0, k1, k2, k3⟩ := HBX.out
      have HW := Lib.hid (belowVia (alloc_below (W.alloc (.cells #[.string x1, .string x2] 23)) (.cells #[.string y1, .string y2] 23)) (alloc_below W (.cells #[.string x1, .string x2] 23)))
      go_wp2_with fail
      clear k0 k1 k2 k3
      generalize (W.alloc (.cells #[.string x1, .string x2] 23)).alloc (.cells #[.string y1, .string y2] 23) = w0 at *
      refine (V1.out w0).mono ?_
      rintro e1 w1 ⟨rfl, hB⟩
      have HW := Lib.hid (belowVia hB HW.out)
      have HBX := Lib.hid (HBX.out.via hB)
      clear hB
      obtain ⟨k0, k1, k2, k3⟩ := HBX.out
      go_wp2_with fail
      clear k0 k1 k2 k3
      refine (V2.out w1).mono ?_
      rintro e2 w2 ⟨rfl, hB⟩
      have HW := Lib.hid (belowVia hB HW.out)
      have HBX := Lib.hid (HBX.out.via hB)
      clear hB
      obtain ⟨k0, k1, k2, k3⟩ := HBX.out
      go_wp2_with fail
      clear k0 k1 k2 k3
      refine ((MX.out (by trivial) (by trivial)) _).mono ?_
      rintro e3 u3' ⟨rfl, hB⟩
      have HW := Lib.hid (belowVia hB HW.out)
      have HBX := Lib.hid (HBX.out.via hB)
      clear hB
      obtain ⟨k0, k1, k2, k3⟩ := HBX.out
      go_wp2_with fail
      clear k0 k1 k2 k3
      refine ((MY.out (by trivial) (by trivial)) _).mono ?_
      rintro e4 u4' ⟨rfl, hB⟩
      have HW := Lib.hid (belowVia hB HW.out)
      have HBX := Lib.hid (HBX.out.via hB)
      clear hB
      obtain ⟨k0, k1, k2, k3⟩ := HBX.out
      go_wp2_with fail
      clear k0 k1 k2 k3
      refine ((MD.out (by trivial) (by trivial)) _).mono ?_
      rintro e5 u5' ⟨rfl, hB⟩
      have HW := Lib.hid (belowVia hB HW.out)
      have HBX := Lib.hid (HBX.out.via hB)
      clear hB
      rcases he with rfl | rfl
      · rcases hf with rfl | rfl
        · rcases hg with rfl | rfl
          · go_wp2_with fail
            (try simp only [Exit.inBlock, Exit.then]); refine bodyPost_ret (results_tmp4 rfl _ _ _) rfl ?_
            exact ⟨rfl, HW.out⟩
          · go_wp2_with fail
            (try simp only [Exit.inBlock, Exit.then]); refine bodyPost_ret (results_tmp4 rfl _ _ _) rfl ?_
            exact ⟨rfl, HW.out⟩
        · go_wp2_with fail
          (try simp only [Exit.inBlock, Exit.then]); refine bodyPost_ret (results_tmp4 rfl _ _ _) rfl ?_
          exact ⟨by simp, HW.out⟩
      · go_wp2_with fail
        (try simp only [Exit.inBlock, Exit.then]); refine bodyPost_ret (results_tmp4 rfl _ _ _) rfl ?_
        exact ⟨by simp, HW.out⟩
set_option maxRecDepth 100000 in
set_option maxHeartbeats 4000000 in
theorem radd_w (x1 x2 y1 y2 X Y D N : ByteArray) (ok : Bool) (e : Int) (q : Option Rat) (hC : CrossC x1 x2 y1 y2 X Y D ok) (hA : ok = true → IntC 39 X Y N e) (hM : ok = true → e = 0 → MakeC N D q) (h0 : ok = false → q = none) (h1 : ok = true → e ≠ 0 → q = none) (he : e = 0 ∨ e = 30) (W : World) :
    Calls Tryz.prog 11 #[.agg #[.string x1, .string x2], .agg #[.string y1, .string y2]] W (GivesQ q W) := by
  have CC := Lib.hid hC
  have AA := Lib.hid hA
  have MM := Lib.hid hM
  have H0 := Lib.hid h0
  have H1 := Lib.hid h1
  clear hC hA hM h0 h1
  go_enter Tryz.func11, Tryz.ntmps11
  go_wp2_with fail
  have HBX := Lib.hid ((Boxes2.new W x1 x2 y1 y2).via (alloc_below _ (.cells #[.string ⟨#[]⟩, .string ⟨#[]⟩] 23)))
  have HW := Lib.hid (belowVia (alloc_below ((W.alloc (.cells #[.string x1, .string x2] 23)).alloc (.cells #[.string y1, .string y2] 23)) (.cells #[.string ⟨#[]⟩, .string ⟨#[]⟩] 23)) (belowVia (alloc_below (W.alloc (.cells #[.string x1, .string x2] 23)) (.cells #[.string y1, .string y2] 23)) (alloc_below W (.cells #[.string x1, .string x2] 23))))
  have hr0 := heap_alloc_new ((W.alloc (.cells #[.string x1, .string x2] 23)).alloc (.cells #[.string y1, .string y2] 23)) (.cells #[.string ⟨#[]⟩, .string ⟨#[]⟩] 23)
  rw [show ((W.alloc (.cells #[.string x1, .string x2] 23)).alloc (.cells #[.string y1, .string y2] 23)).heap.size = W.heap.size + 1 + 1 by simp] at hr0
  have HRB : Hid (ResBox (W.heap.size + 1 + 1) _) := Lib.hid (ResBox.mk hr0)
  clear hr0
  obtain ⟨k0, k1, k2, k3⟩ := HBX.out
  go_wp2_with fail
  clear k0 k1 k2 k3
  generalize ((W.alloc (.cells #[.string x1, .string x2] 23)).alloc (.cells #[.string y1, .string y2] 23)).alloc (.cells #[.string ⟨#[]⟩, .string ⟨#[]⟩] 23) = w0 at *
  refine (CC.out w0).mono ?_
  rintro e1 w1 ⟨rfl, hB⟩
  have HW := Lib.hid (belowVia hB HW.out)
  have HBX := Lib.hid (HBX.out.via hB)
  have HRB := Lib.hid (ResBox.mk (p := W.heap.size + 1 + 1) (heap_below hB HRB.out.heap))
  clear hB
  cases ok with
  | false =>
    have HN := Lib.hid (H0.out rfl)
    obtain ⟨q1, f1⟩ := cell2 HRB.out.heap
    obtain ⟨q2, f2⟩ := cell2b HRB.out.heap
    go_wp2_with fail
    refine bodyPost_ret (results_qe rfl _ _ (W.heap.size + 1 + 1) _ _ rfl (HRB.out.set _ _)) rfl ?_
    exact ⟨by rw [HN.out]; rfl, below_set2 HW.out (by omega) _ _⟩
  | true =>
    go_wp2_with fail
    refine (AA.out (by trivial) w1).mono ?_
    rintro e2 w2 ⟨rfl, hB⟩
    have HW := Lib.hid (belowVia hB HW.out)
    have HBX := Lib.hid (HBX.out.via hB)
    have HRB := Lib.hid (ResBox.mk (p := W.heap.size + 1 + 1) (heap_below hB HRB.out.heap))
    clear hB
    rcases he with rfl | rfl
    · go_wp2_with fail
      refine (MM.out (by trivial) (by trivial) w2).mono ?_
      rintro e3 w3 ⟨rfl, hB⟩
      have HW := Lib.hid (belowVia hB HW.out)
      have HBX := Lib.hid (HBX.out.via hB)
      have HRB := Lib.hid (ResBox.mk (p := W.heap.size + 1 + 1) (heap_below hB HRB.out.heap))
      clear hB
      obtain ⟨q1, f1⟩ := cell2 HRB.out.heap
      obtain ⟨q2, f2⟩ := cell2b HRB.out.heap
      go_wp2_with fail
      refine bodyPost_ret (results_qe rfl _ _ (W.heap.size + 1 + 1) _ _ rfl (HRB.out.set _ _)) rfl ?_
      exact ⟨rfl, below_set2 HW.out (by omega) _ _⟩
    · have HN := Lib.hid (H1.out (by trivial) (by decide))
      obtain ⟨q1, f1⟩ := cell2 HRB.out.heap
      obtain ⟨q2, f2⟩ := cell2b HRB.out.heap
      go_wp2_with fail
      refine bodyPost_ret (results_qe rfl _ _ (W.heap.size + 1 + 1) _ _ rfl (HRB.out.set _ _)) rfl ?_
      exact ⟨by rw [HN.out]; rfl, below_set2 HW.out (by omega) _ _⟩
set_option maxRecDepth 100000 in
set_option maxHeartbeats 4000000 in
theorem rsub_w (x1 x2 y1 y2 X Y D N : ByteArray) (ok : Bool) (e : Int) (q : Option Rat) (hC : CrossC x1 x2 y1 y2 X Y D ok) (hA : ok = true → IntC 40 X Y N e) (hM : ok = true → e = 0 → MakeC N D q) (h0 : ok = false → q = none) (h1 : ok = true → e ≠ 0 → q = none) (he : e = 0 ∨ e = 30) (W : World) :
    Calls Tryz.prog 12 #[.agg #[.string x1, .string x2], .agg #[.string y1, .string y2]] W (GivesQ q W) := by
  have CC := Lib.hid hC
  have AA := Lib.hid hA
  have MM := Lib.hid hM
  have H0 := Lib.hid h0
  have H1 := Lib.hid h1
  clear hC hA hM h0 h1
  go_enter Tryz.func12, Tryz.ntmps12
  go_wp2_with fail
  have HBX := Lib.hid ((Boxes2.new W x1 x2 y1 y2).via (alloc_below _ (.cells #[.string ⟨#[]⟩, .string ⟨#[]⟩] 23)))
  have HW := Lib.hid (belowVia (alloc_below ((W.alloc (.cells #[.string x1, .string x2] 23)).alloc (.cells #[.string y1, .string y2] 23)) (.cells #[.string ⟨#[]⟩, .string ⟨#[]⟩] 23)) (belowVia (alloc_below (W.alloc (.cells #[.string x1, .string x2] 23)) (.cells #[.string y1, .string y2] 23)) (alloc_below W (.cells #[.string x1, .string x2] 23))))
  have hr0 := heap_alloc_new ((W.alloc (.cells #[.string x1, .string x2] 23)).alloc (.cells #[.string y1, .string y2] 23)) (.cells #[.string ⟨#[]⟩, .string ⟨#[]⟩] 23)
  rw [show ((W.alloc (.cells #[.string x1, .string x2] 23)).alloc (.cells #[.string y1, .string y2] 23)).heap.size = W.heap.size + 1 + 1 by simp] at hr0
  have HRB : Hid (ResBox (W.heap.size + 1 + 1) _) := Lib.hid (ResBox.mk hr0)
  clear hr0
  obtain ⟨k0, k1, k2, k3⟩ := HBX.out
  go_wp2_with fail
  clear k0 k1 k2 k3
  generalize ((W.alloc (.cells #[.string x1, .string x2] 23)).alloc (.cells #[.string y1, .string y2] 23)).alloc (.cells #[.string ⟨#[]⟩, .string ⟨#[]⟩] 23) = w0 at *
  refine (CC.out w0).mono ?_
  rintro e1 w1 ⟨rfl, hB⟩
  have HW := Lib.hid (belowVia hB HW.out)
  have HBX := Lib.hid (HBX.out.via hB)
  have HRB := Lib.hid (ResBox.mk (p := W.heap.size + 1 + 1) (heap_below hB HRB.out.heap))
  clear hB
  cases ok with
  | false =>
    have HN := Lib.hid (H0.out rfl)
    obtain ⟨q1, f1⟩ := cell2 HRB.out.heap
    obtain ⟨q2, f2⟩ := cell2b HRB.out.heap
    go_wp2_with fail
    refine bodyPost_ret (results_qe rfl _ _ (W.heap.size + 1 + 1) _ _ rfl (HRB.out.set _ _)) rfl ?_
    exact ⟨by rw [HN.out]; rfl, below_set2 HW.out (by omega) _ _⟩
  | true =>
    go_wp2_with fail
    refine (AA.out (by trivial) w1).mono ?_
    rintro e2 w2 ⟨rfl, hB⟩
    have HW := Lib.hid (belowVia hB HW.out)
    have HBX := Lib.hid (HBX.out.via hB)
    have HRB := Lib.hid (ResBox.mk (p := W.heap.size + 1 + 1) (heap_below hB HRB.out.heap))
    clear hB
    rcases he with rfl | rfl
    · go_wp2_with fail
      refine (MM.out (by trivial) (by trivial) w2).mono ?_
      rintro e3 w3 ⟨rfl, hB⟩
      have HW := Lib.hid (belowVia hB HW.out)
      have HBX := Lib.hid (HBX.out.via hB)
      have HRB := Lib.hid (ResBox.mk (p := W.heap.size + 1 + 1) (heap_below hB HRB.out.heap))
      clear hB
      obtain ⟨q1, f1⟩ := cell2 HRB.out.heap
      obtain ⟨q2, f2⟩ := cell2b HRB.out.heap
      go_wp2_with fail
      refine bodyPost_ret (results_qe rfl _ _ (W.heap.size + 1 + 1) _ _ rfl (HRB.out.set _ _)) rfl ?_
      exact ⟨rfl, below_set2 HW.out (by omega) _ _⟩
    · have HN := Lib.hid (H1.out (by trivial) (by decide))
      obtain ⟨q1, f1⟩ := cell2 HRB.out.heap
      obtain ⟨q2, f2⟩ := cell2b HRB.out.heap
      go_wp2_with fail
      refine bodyPost_ret (results_qe rfl _ _ (W.heap.size + 1 + 1) _ _ rfl (HRB.out.set _ _)) rfl ?_
      exact ⟨by rw [HN.out]; rfl, below_set2 HW.out (by omega) _ _⟩
set_option maxRecDepth 100000 in
set_option maxHeartbeats 4000000 in
theorem rmul_w (x1 x2 y1 y2 N D : ByteArray) (v1 v2 : Bool) (e f : Int) (q : Option Rat) (hv1 : ValidC x1 x2 v1) (hv2 : ValidC y1 y2 v2) (hN : v1 = true → v2 = true → IntC 41 x1 y1 N e) (hD : v1 = true → v2 = true → IntC 41 x2 y2 D f) (hM : v1 = true → v2 = true → e = 0 → f = 0 → MakeC N D q) (h0 : v1 = false ∨ v2 = false → q = none) (h1 : e = 30 ∨ f = 30 → q = none) (he : e = 0 ∨ e = 30) (hf : f = 0 ∨ f = 30) (W : World) :
    Calls Tryz.prog 13 #[.agg #[.string x1, .string x2], .agg #[.string y1, .string y2]] W (GivesQ q W) := by
  have V1 := Lib.hid hv1
  have V2 := Lib.hid hv2
  have NN := Lib.hid hN
  have DD := Lib.hid hD
  have MM := Lib.hid hM
  have H0 := Lib.hid h0
  have H1 := Lib.hid h1
  clear hv1 hv2 hN hD hM h0 h1
  go_enter Tryz.func13, Tryz.ntmps13
  go_wp2_with fail
  have HBX := Lib.hid ((Boxes2.new W x1 x2 y1 y2).via (alloc_below _ (.cells #[.string ⟨#[]⟩, .string ⟨#[]⟩] 23)))
  have HW := Lib.hid (belowVia (alloc_below ((W.alloc (.cells #[.string x1, .string x2] 23)).alloc (.cells #[.string y1, .string y2] 23)) (.cells #[.string ⟨#[]⟩, .string ⟨#[]⟩] 23)) (belowVia (alloc_below (W.alloc (.cells #[.string x1, .string x2] 23)) (.cells #[.string y1, .string y2] 23)) (alloc_below W (.cells #[.string x1, .string x2] 23))))
  have hr0 := heap_alloc_new ((W.alloc (.cells #[.string x1, .string x2] 23)).alloc (.cells #[.string y1, .string y2] 23)) (.cells #[.string ⟨#[]⟩, .string ⟨#[]⟩] 23)
  rw [show ((W.alloc (.cells #[.string x1, .string x2] 23)).alloc (.cells #[.string y1, .string y2] 23)).heap.size = W.heap.size + 1 + 1 by simp] at hr0
  have HRB : Hid (ResBox (W.heap.size + 1 + 1) _) := Lib.hid (ResBox.mk hr0)
  clear hr0
  obtain ⟨k0, k1, k2, k3⟩ := HBX.out
  go_wp2_with fail
  clear k0 k1 k2 k3
  generalize ((W.alloc (.cells #[.string x1, .string x2] 23)).alloc (.cells #[.string y1, .string y2] 23)).alloc (.cells #[.string ⟨#[]⟩, .string ⟨#[]⟩] 23) = w0 at *
  refine (V1.out w0).mono ?_
  rintro e1 w1 ⟨rfl, hB⟩
  have HW := Lib.hid (belowVia hB HW.out)
  have HBX := Lib.hid (HBX.out.via hB)
  have HRB := Lib.hid (ResBox.mk (p := W.heap.size + 1 + 1) (heap_below hB HRB.out.heap))
  clear hB
  obtain ⟨k0, k1, k2, k3⟩ := HBX.out
  go_wp2_with fail
  clear k0 k1 k2 k3
  refine (V2.out w1).mono ?_
  rintro e2 w2 ⟨rfl, hB⟩
  have HW := Lib.hid (belowVia hB HW.out)
  have HBX := Lib.hid (HBX.out.via hB)
  have HRB := Lib.hid (ResBox.mk (p := W.heap.size + 1 + 1) (heap_below hB HRB.out.heap))
  clear hB
  cases v1 with
  | false =>
    have HN := Lib.hid (H0.out (.inl rfl))
    obtain ⟨q1, f1⟩ := cell2 HRB.out.heap
    obtain ⟨q2, f2⟩ := cell2b HRB.out.heap
    go_wp2_with fail
    refine bodyPost_ret (results_qe rfl _ _ (W.heap.size + 1 + 1) _ _ rfl (HRB.out.set _ _)) rfl ?_
    exact ⟨by rw [HN.out]; rfl, below_set2 HW.out (by omega) _ _⟩
  | true =>
    cases v2 with
    | false =>
      have HN := Lib.hid (H0.out (.inr rfl))
      obtain ⟨q1, f1⟩ := cell2 HRB.out.heap
      obtain ⟨q2, f2⟩ := cell2b HRB.out.heap
      go_wp2_with fail
      refine bodyPost_ret (results_qe rfl _ _ (W.heap.size + 1 + 1) _ _ rfl (HRB.out.set _ _)) rfl ?_
      exact ⟨by rw [HN.out]; rfl, below_set2 HW.out (by omega) _ _⟩
    | true =>
      obtain ⟨k0, k1, k2, k3⟩ := HBX.out
      go_wp2_with fail
      clear k0 k1 k2 k3
      refine (NN.out (by trivial) (by trivial) w2).mono ?_
      rintro e3 w3 ⟨rfl, hB⟩
      have HW := Lib.hid (belowVia hB HW.out)
      have HBX := Lib.hid (HBX.out.via hB)
      have HRB := Lib.hid (ResBox.mk (p := W.heap.size + 1 + 1) (heap_below hB HRB.out.heap))
      clear hB
      obtain ⟨k0, k1, k2, k3⟩ := HBX.out
      go_wp2_with fail
      clear k0 k1 k2 k3
      refine (DD.out (by trivial) (by trivial) w3).mono ?_
      rintro e4 w4 ⟨rfl, hB⟩
      have HW := Lib.hid (belowVia hB HW.out)
      have HBX := Lib.hid (HBX.out.via hB)
      have HRB := Lib.hid (ResBox.mk (p := W.heap.size + 1 + 1) (heap_below hB HRB.out.heap))
      clear hB
      rcases he with rfl | rfl
      · rcases hf with rfl | rfl
        · go_wp2_with fail
          refine (MM.out (by trivial) (by trivial) (by trivial) (by trivial) w4).mono ?_
          rintro e5 w5 ⟨rfl, hB⟩
          have HW := Lib.hid (belowVia hB HW.out)
          have HBX := Lib.hid (HBX.out.via hB)
          have HRB := Lib.hid (ResBox.mk (p := W.heap.size + 1 + 1) (heap_below hB HRB.out.heap))
          clear hB
          obtain ⟨q1, f1⟩ := cell2 HRB.out.heap
          obtain ⟨q2, f2⟩ := cell2b HRB.out.heap
          go_wp2_with fail
          refine bodyPost_ret (results_qe rfl _ _ (W.heap.size + 1 + 1) _ _ rfl (HRB.out.set _ _)) rfl ?_
          exact ⟨rfl, below_set2 HW.out (by omega) _ _⟩
        · have HN := Lib.hid (H1.out (.inr rfl))
          obtain ⟨q1, f1⟩ := cell2 HRB.out.heap
          obtain ⟨q2, f2⟩ := cell2b HRB.out.heap
          go_wp2_with fail
          refine bodyPost_ret (results_qe rfl _ _ (W.heap.size + 1 + 1) _ _ rfl (HRB.out.set _ _)) rfl ?_
          exact ⟨by rw [HN.out]; rfl, below_set2 HW.out (by omega) _ _⟩
      · have HN := Lib.hid (H1.out (.inl rfl))
        obtain ⟨q1, f1⟩ := cell2 HRB.out.heap
        obtain ⟨q2, f2⟩ := cell2b HRB.out.heap
        go_wp2_with fail
        refine bodyPost_ret (results_qe rfl _ _ (W.heap.size + 1 + 1) _ _ rfl (HRB.out.set _ _)) rfl ?_
        exact ⟨by rw [HN.out]; rfl, below_set2 HW.out (by omega) _ _⟩
set_option maxRecDepth 100000 in
set_option maxHeartbeats 4000000 in
theorem rdiv_w (x1 x2 y1 y2 N D : ByteArray) (v1 v2 : Bool) (e f : Int) (q : Option Rat) (hv1 : ValidC x1 x2 v1) (hv2 : ValidC y1 y2 v2) (hN : v1 = true → v2 = true → IntC 41 x1 y2 N e) (hD : v1 = true → v2 = true → IntC 41 x2 y1 D f) (hM : v1 = true → v2 = true → e = 0 → f = 0 → MakeC N D q) (h0 : v1 = false ∨ v2 = false → q = none) (h1 : e = 30 ∨ f = 30 → q = none) (he : e = 0 ∨ e = 30) (hf : f = 0 ∨ f = 30) (W : World) :
    Calls Tryz.prog 14 #[.agg #[.string x1, .string x2], .agg #[.string y1, .string y2]] W (GivesQ q W) := by
  have V1 := Lib.hid hv1
  have V2 := Lib.hid hv2
  have NN := Lib.hid hN
  have DD := Lib.hid hD
  have MM := Lib.hid hM
  have H0 := Lib.hid h0
  have H1 := Lib.hid h1
  clear hv1 hv2 hN hD hM h0 h1
  go_enter Tryz.func14, Tryz.ntmps14
  go_wp2_with fail
  have HBX := Lib.hid ((Boxes2.new W x1 x2 y1 y2).via (alloc_below _ (.cells #[.string ⟨#[]⟩, .string ⟨#[]⟩] 23)))
  have HW := Lib.hid (belowVia (alloc_below ((W.alloc (.cells #[.string x1, .string x2] 23)).alloc (.cells #[.string y1, .string y2] 23)) (.cells #[.string ⟨#[]⟩, .string ⟨#[]⟩] 23)) (belowVia (alloc_below (W.alloc (.cells #[.string x1, .string x2] 23)) (.cells #[.string y1, .string y2] 23)) (alloc_below W (.cells #[.string x1, .string x2] 23))))
  have hr0 := heap_alloc_new ((W.alloc (.cells #[.string x1, .string x2] 23)).alloc (.cells #[.string y1, .string y2] 23)) (.cells #[.string ⟨#[]⟩, .string ⟨#[]⟩] 23)
  rw [show ((W.alloc (.cells #[.string x1, .string x2] 23)).alloc (.cells #[.string y1, .string y2] 23)).heap.size = W.heap.size + 1 + 1 by simp] at hr0
  have HRB : Hid (ResBox (W.heap.size + 1 + 1) _) := Lib.hid (ResBox.mk hr0)
  clear hr0
  obtain ⟨k0, k1, k2, k3⟩ := HBX.out
  go_wp2_with fail
  clear k0 k1 k2 k3
  generalize ((W.alloc (.cells #[.string x1, .string x2] 23)).alloc (.cells #[.string y1, .string y2] 23)).alloc (.cells #[.string ⟨#[]⟩, .string ⟨#[]⟩] 23) = w0 at *
  refine (V1.out w0).mono ?_
  rintro e1 w1 ⟨rfl, hB⟩
  have HW := Lib.hid (belowVia hB HW.out)
  have HBX := Lib.hid (HBX.out.via hB)
  have HRB := Lib.hid (ResBox.mk (p := W.heap.size + 1 + 1) (heap_below hB HRB.out.heap))
  clear hB
  obtain ⟨k0, k1, k2, k3⟩ := HBX.out
  go_wp2_with fail
  clear k0 k1 k2 k3
  refine (V2.out w1).mono ?_
  rintro e2 w2 ⟨rfl, hB⟩
  have HW := Lib.hid (belowVia hB HW.out)
  have HBX := Lib.hid (HBX.out.via hB)
  have HRB := Lib.hid (ResBox.mk (p := W.heap.size + 1 + 1) (heap_below hB HRB.out.heap))
  clear hB
  cases v1 with
  | false =>
    have HN := Lib.hid (H0.out (.inl rfl))
    obtain ⟨q1, f1⟩ := cell2 HRB.out.heap
    obtain ⟨q2, f2⟩ := cell2b HRB.out.heap
    go_wp2_with fail
    refine bodyPost_ret (results_qe rfl _ _ (W.heap.size + 1 + 1) _ _ rfl (HRB.out.set _ _)) rfl ?_
    exact ⟨by rw [HN.out]; rfl, below_set2 HW.out (by omega) _ _⟩
  | true =>
    cases v2 with
    | false =>
      have HN := Lib.hid (H0.out (.inr rfl))
      obtain ⟨q1, f1⟩ := cell2 HRB.out.heap
      obtain ⟨q2, f2⟩ := cell2b HRB.out.heap
      go_wp2_with fail
      refine bodyPost_ret (results_qe rfl _ _ (W.heap.size + 1 + 1) _ _ rfl (HRB.out.set _ _)) rfl ?_
      exact ⟨by rw [HN.out]; rfl, below_set2 HW.out (by omega) _ _⟩
    | true =>
      obtain ⟨k0, k1, k2, k3⟩ := HBX.out
      go_wp2_with fail
      clear k0 k1 k2 k3
      refine (NN.out (by trivial) (by trivial) w2).mono ?_
      rintro e3 w3 ⟨rfl, hB⟩
      have HW := Lib.hid (belowVia hB HW.out)
      have HBX := Lib.hid (HBX.out.via hB)
      have HRB := Lib.hid (ResBox.mk (p := W.heap.size + 1 + 1) (heap_below hB HRB.out.heap))
      clear hB
      obtain ⟨k0, k1, k2, k3⟩ := HBX.out
      go_wp2_with fail
      clear k0 k1 k2 k3
      refine (DD.out (by trivial) (by trivial) w3).mono ?_
      rintro e4 w4 ⟨rfl, hB⟩
      have HW := Lib.hid (belowVia hB HW.out)
      have HBX := Lib.hid (HBX.out.via hB)
      have HRB := Lib.hid (ResBox.mk (p := W.heap.size + 1 + 1) (heap_below hB HRB.out.heap))
      clear hB
      rcases he with rfl | rfl
      · rcases hf with rfl | rfl
        · go_wp2_with fail
          refine (MM.out (by trivial) (by trivial) (by trivial) (by trivial) w4).mono ?_
          rintro e5 w5 ⟨rfl, hB⟩
          have HW := Lib.hid (belowVia hB HW.out)
          have HBX := Lib.hid (HBX.out.via hB)
          have HRB := Lib.hid (ResBox.mk (p := W.heap.size + 1 + 1) (heap_below hB HRB.out.heap))
          clear hB
          obtain ⟨q1, f1⟩ := cell2 HRB.out.heap
          obtain ⟨q2, f2⟩ := cell2b HRB.out.heap
          go_wp2_with fail
          refine bodyPost_ret (results_qe rfl _ _ (W.heap.size + 1 + 1) _ _ rfl (HRB.out.set _ _)) rfl ?_
          exact ⟨rfl, below_set2 HW.out (by omega) _ _⟩
        · have HN := Lib.hid (H1.out (.inr rfl))
          obtain ⟨q1, f1⟩ := cell2 HRB.out.heap
          obtain ⟨q2, f2⟩ := cell2b HRB.out.heap
          go_wp2_with fail
          refine bodyPost_ret (results_qe rfl _ _ (W.heap.size + 1 + 1) _ _ rfl (HRB.out.set _ _)) rfl ?_
          exact ⟨by rw [HN.out]; rfl, below_set2 HW.out (by omega) _ _⟩
      · have HN := Lib.hid (H1.out (.inl rfl))
        obtain ⟨q1, f1⟩ := cell2 HRB.out.heap
        obtain ⟨q2, f2⟩ := cell2b HRB.out.heap
        go_wp2_with fail
        refine bodyPost_ret (results_qe rfl _ _ (W.heap.size + 1 + 1) _ _ rfl (HRB.out.set _ _)) rfl ?_
        exact ⟨by rw [HN.out]; rfl, below_set2 HW.out (by omega) _ _⟩
theorem rvalid_c (x1 x2 : ByteArray) (h1 : Sized x1) (h2 : Sized x2) : ValidC x1 x2 (readQ x1 x2).isSome := fun w => rvalid_q x1 x2 h1 h2 w
theorem make_c {a b : Int} (ha : Fits a) (hb : Fits b) {q : Option Rat} (h : makeQ (some a) (some b) = q) : MakeC (intB a) (intB b) q := fun w => by
  have := rmake_q (intB a) (intB b) (sized_fits ha) (sized_fits hb) w
  rw [readI_int ha, readI_int hb, h] at this; exact this
theorem okE_02 (z : Int) : okE z = 0 ∨ okE z = 30 := by
  rcases okE_cases z with h | h
  · exact .inl h.2.1
  · exact .inr h.2
theorem okE_iff (z : Int) : okE z = 0 ↔ Fits z := by
  rcases okE_cases z with h | h
  · exact ⟨fun _ => h.1, fun _ => h.2.1⟩
  · exact ⟨fun k => absurd k (by rw [h.2]; decide), fun k => absurd k h.1⟩
theorem cross_some {a b : Rat} (ha : FitsQ a) (hb : FitsQ b) : CrossC (intB a.num) (intB a.den) (intB b.num) (intB b.den) (okS (a.num * b.den)) (okS (b.num * a.den)) (okS (a.den * b.den)) (decide (okE (a.num * b.den) = 0 ∧ okE (b.num * a.den) = 0 ∧ okE (a.den * b.den) = 0)) := by
  have h1 := rvalid_c (intB a.num) (intB a.den) (sized_fits ha.1) (sized_fits ha.2)
  have h2 := rvalid_c (intB b.num) (intB b.den) (sized_fits hb.1) (sized_fits hb.2)
  rw [readQ_rat ha] at h1
  rw [readQ_rat hb] at h2
  have h := cross_w _ _ _ _ _ _ _ _ _ _ _ _ h1 h2 (fun _ _ => rmul_c ha.1 hb.2) (fun _ _ => rmul_c hb.1 ha.2) (fun _ _ => rmul_c ha.2 hb.2) (okE_02 _) (okE_02 _) (okE_02 _)
  rwa [if_pos ⟨rfl, rfl⟩] at h
theorem cross_none (x1 x2 y1 y2 : ByteArray) (hx1 : Sized x1) (hx2 : Sized x2) (hy1 : Sized y1) (hy2 : Sized y2) (h : readQ x1 x2 = none ∨ readQ y1 y2 = none) : CrossC x1 x2 y1 y2 ⟨#[]⟩ ⟨#[]⟩ ⟨#[]⟩ false := by
  have h1 := rvalid_c x1 x2 hx1 hx2
  have h2 := rvalid_c y1 y2 hy1 hy2
  have k : ¬ ((readQ x1 x2).isSome = true ∧ (readQ y1 y2).isSome = true) := by
    rcases h with h | h <;> rw [h] <;> simp
  by_cases c : (readQ x1 x2).isSome = true
  · have c2 : (readQ y1 y2).isSome = false := by rw [Bool.eq_false_iff]; exact fun e => k ⟨c, e⟩
    rw [c2] at h2
    have h := cross_w x1 x2 y1 y2 ⟨#[]⟩ ⟨#[]⟩ ⟨#[]⟩ _ _ 0 0 0 h1 h2 (fun _ e => by cases e) (fun _ e => by cases e) (fun _ e => by cases e) (.inl rfl) (.inl rfl) (.inl rfl)
    rwa [if_neg (by simp)] at h
  · have c2 : (readQ x1 x2).isSome = false := by rw [Bool.eq_false_iff]; exact c
    rw [c2] at h1
    have h := cross_w x1 x2 y1 y2 ⟨#[]⟩ ⟨#[]⟩ ⟨#[]⟩ _ _ 0 0 0 h1 h2 (fun e _ => by cases e) (fun e _ => by cases e) (fun e _ => by cases e) (.inl rfl) (.inl rfl) (.inl rfl)
    rwa [if_neg (by simp)] at h
theorem radd_q (x1 x2 y1 y2 : ByteArray) (hx1 : Sized x1) (hx2 : Sized x2) (hy1 : Sized y1) (hy2 : Sized y2) (W : World) :
    Calls Tryz.prog 11 #[.agg #[.string x1, .string x2], .agg #[.string y1, .string y2]] W (GivesQ (addQ (readQ x1 x2) (readQ y1 y2)) W) := by
  rcases readQ_isSome (n := x1) (d := x2) with h | ⟨a, h, rfl, rfl, fa⟩
  · rw [h]
    exact radd_w _ _ _ _ _ _ _ ⟨#[]⟩ _ 0 _ (cross_none x1 x2 y1 y2 hx1 hx2 hy1 hy2 (.inl h)) (fun e => by cases e) (fun e => by cases e) (fun _ => rfl) (fun e => by cases e) (.inl rfl) W
  · rcases readQ_isSome (n := y1) (d := y2) with h2 | ⟨b, h2, rfl, rfl, fb⟩
    · rw [h2, h]
      exact radd_w _ _ _ _ _ _ _ ⟨#[]⟩ _ 0 _ (cross_none _ _ y1 y2 hx1 hx2 hy1 hy2 (.inr h2)) (fun e => by cases e) (fun e => by cases e) (fun _ => rfl) (fun e => by cases e) (.inl rfl) W
    · rw [h, h2]
      refine radd_w _ _ _ _ _ _ _ (okS (a.num * b.den + b.num * a.den)) _ (okE (a.num * b.den + b.num * a.den)) _ (cross_some fa fb) (fun e => ?_) (fun e k => ?_) (fun e => ?_) (fun e k => ?_) (okE_02 _) W
      · obtain ⟨k1, k2, k3⟩ := of_decide_eq_true e
        rw [okE_iff] at k1 k2 k3
        rw [okS_fits k1, okS_fits k2]
        exact fun w => radd_ok _ _ k1 k2 w
      · obtain ⟨k1, k2, k3⟩ := of_decide_eq_true e
        rw [okE_iff] at k1 k2 k3 k
        rw [okS_fits k3, okS_fits k]
        refine make_c k k3 ?_
        rw [makeQ_ok (Int.ne_of_gt (Int.mul_pos (den_posI a) (den_posI b)))]
        rw [addQ, lift2_ok ⟨k1, k2, k3, k⟩, add_red]
      · have k := of_decide_eq_false e
        rw [okE_iff, okE_iff, okE_iff] at k
        exact lift2_no (fun ⟨k1, k2, k3, _⟩ => k ⟨k1, k2, k3⟩)
      · rw [ne_eq, okE_iff] at k
        exact lift2_no (fun ⟨_, _, _, k4⟩ => k k4)
theorem rsub_q (x1 x2 y1 y2 : ByteArray) (hx1 : Sized x1) (hx2 : Sized x2) (hy1 : Sized y1) (hy2 : Sized y2) (W : World) :
    Calls Tryz.prog 12 #[.agg #[.string x1, .string x2], .agg #[.string y1, .string y2]] W (GivesQ (subQ (readQ x1 x2) (readQ y1 y2)) W) := by
  rcases readQ_isSome (n := x1) (d := x2) with h | ⟨a, h, rfl, rfl, fa⟩
  · rw [h]
    exact rsub_w _ _ _ _ _ _ _ ⟨#[]⟩ _ 0 _ (cross_none x1 x2 y1 y2 hx1 hx2 hy1 hy2 (.inl h)) (fun e => by cases e) (fun e => by cases e) (fun _ => rfl) (fun e => by cases e) (.inl rfl) W
  · rcases readQ_isSome (n := y1) (d := y2) with h2 | ⟨b, h2, rfl, rfl, fb⟩
    · rw [h2, h]
      exact rsub_w _ _ _ _ _ _ _ ⟨#[]⟩ _ 0 _ (cross_none _ _ y1 y2 hx1 hx2 hy1 hy2 (.inr h2)) (fun e => by cases e) (fun e => by cases e) (fun _ => rfl) (fun e => by cases e) (.inl rfl) W
    · rw [h, h2]
      refine rsub_w _ _ _ _ _ _ _ (okS (a.num * b.den - b.num * a.den)) _ (okE (a.num * b.den - b.num * a.den)) _ (cross_some fa fb) (fun e => ?_) (fun e k => ?_) (fun e => ?_) (fun e k => ?_) (okE_02 _) W
      · obtain ⟨k1, k2, k3⟩ := of_decide_eq_true e
        rw [okE_iff] at k1 k2 k3
        rw [okS_fits k1, okS_fits k2]
        exact fun w => rsub_ok _ _ k1 k2 w
      · obtain ⟨k1, k2, k3⟩ := of_decide_eq_true e
        rw [okE_iff] at k1 k2 k3 k
        rw [okS_fits k3, okS_fits k]
        refine make_c k k3 ?_
        rw [makeQ_ok (Int.ne_of_gt (Int.mul_pos (den_posI a) (den_posI b)))]
        rw [subQ, lift2_ok ⟨k1, k2, k3, k⟩, sub_red]
      · have k := of_decide_eq_false e
        rw [okE_iff, okE_iff, okE_iff] at k
        exact lift2_no (fun ⟨k1, k2, k3, _⟩ => k ⟨k1, k2, k3⟩)
      · rw [ne_eq, okE_iff] at k
        exact lift2_no (fun ⟨_, _, _, k4⟩ => k k4)
theorem rmul_q (x1 x2 y1 y2 : ByteArray) (hx1 : Sized x1) (hx2 : Sized x2) (hy1 : Sized y1) (hy2 : Sized y2) (W : World) :
    Calls Tryz.prog 13 #[.agg #[.string x1, .string x2], .agg #[.string y1, .string y2]] W (GivesQ (mulQ (readQ x1 x2) (readQ y1 y2)) W) := by
  have h1 := rvalid_c x1 x2 hx1 hx2
  have h2 := rvalid_c y1 y2 hy1 hy2
  rcases readQ_isSome (n := x1) (d := x2) with h | ⟨a, h, rfl, rfl, fa⟩
  · rw [h] at h1 ⊢
    exact rmul_w _ _ _ _ ⟨#[]⟩ ⟨#[]⟩ _ _ 0 0 _ h1 h2 (fun e _ => by cases e) (fun e _ => by cases e) (fun e _ => by cases e) (fun _ => rfl) (fun e => by omega) (.inl rfl) (.inl rfl) W
  · rcases readQ_isSome (n := y1) (d := y2) with k | ⟨b, k, rfl, rfl, fb⟩
    · rw [k] at h2
      rw [k, h]
      exact rmul_w _ _ _ _ ⟨#[]⟩ ⟨#[]⟩ _ _ 0 0 _ h1 h2 (fun _ e => by cases e) (fun _ e => by cases e) (fun _ e => by cases e) (fun _ => rfl) (fun e => by omega) (.inl rfl) (.inl rfl) W
    · rw [h] at h1
      rw [k] at h2
      rw [h, k]
      refine rmul_w _ _ _ _ _ _ _ _ (okE (a.num * b.num)) (okE ((a.den : Int) * b.den)) _ h1 h2 (fun _ _ => rmul_c fa.1 fb.1) (fun _ _ => rmul_c fa.2 fb.2) (fun _ _ k k2 => ?_) (fun e => ?_) (fun e => ?_) (okE_02 _) (okE_02 _) W
      · rw [okE_iff] at k k2
        rw [okS_fits k, okS_fits k2]
        refine make_c k k2 ?_
        rw [makeQ_ok (Int.ne_of_gt (Int.mul_pos (den_posI a) (den_posI b)))]
        rw [mulQ, lift2_ok ⟨k, k2⟩, mul_red]
      · rcases e with e | e <;> cases e
      · skip
        rcases e with e | e
        · have : okE (a.num * b.num) ≠ 0 := by rw [e]; decide
          rw [ne_eq, okE_iff] at this
          exact lift2_no (fun h => this h.1)
        · have : okE ((a.den : Int) * b.den) ≠ 0 := by rw [e]; decide
          rw [ne_eq, okE_iff] at this
          exact lift2_no (fun h => this h.2)
theorem rdiv_q (x1 x2 y1 y2 : ByteArray) (hx1 : Sized x1) (hx2 : Sized x2) (hy1 : Sized y1) (hy2 : Sized y2) (W : World) :
    Calls Tryz.prog 14 #[.agg #[.string x1, .string x2], .agg #[.string y1, .string y2]] W (GivesQ (divQ (readQ x1 x2) (readQ y1 y2)) W) := by
  have h1 := rvalid_c x1 x2 hx1 hx2
  have h2 := rvalid_c y1 y2 hy1 hy2
  rcases readQ_isSome (n := x1) (d := x2) with h | ⟨a, h, rfl, rfl, fa⟩
  · rw [h] at h1 ⊢
    exact rdiv_w _ _ _ _ ⟨#[]⟩ ⟨#[]⟩ _ _ 0 0 _ h1 h2 (fun e _ => by cases e) (fun e _ => by cases e) (fun e _ => by cases e) (fun _ => rfl) (fun e => by omega) (.inl rfl) (.inl rfl) W
  · rcases readQ_isSome (n := y1) (d := y2) with k | ⟨b, k, rfl, rfl, fb⟩
    · rw [k] at h2
      rw [k, h]
      exact rdiv_w _ _ _ _ ⟨#[]⟩ ⟨#[]⟩ _ _ 0 0 _ h1 h2 (fun _ e => by cases e) (fun _ e => by cases e) (fun _ e => by cases e) (fun _ => rfl) (fun e => by omega) (.inl rfl) (.inl rfl) W
    · rw [h] at h1
      rw [k] at h2
      rw [h, k]
      refine rdiv_w _ _ _ _ _ _ _ _ (okE (a.num * b.den)) (okE ((a.den : Int) * b.num)) _ h1 h2 (fun _ _ => rmul_c fa.1 fb.2) (fun _ _ => rmul_c fa.2 fb.1) (fun _ _ k k2 => ?_) (fun e => ?_) (fun e => ?_) (okE_02 _) (okE_02 _) W
      · rw [okE_iff] at k k2
        rw [okS_fits k, okS_fits k2]
        refine make_c k k2 ?_
        by_cases hb0 : b = 0
        · rw [hb0, show ((0 : Rat).num) = 0 from rfl, Int.mul_zero, makeQ_zero]
          exact (lift2_no (fun ⟨k0, _⟩ => k0 rfl)).symm
        · rw [makeQ_ok (Int.mul_ne_zero (Int.ne_of_gt (den_posI a)) (num_ne hb0))]
          rw [divQ, lift2_ok ⟨hb0, k, k2⟩, div_red]
      · rcases e with e | e <;> cases e
      · skip
        rcases e with e | e
        · have : okE (a.num * b.den) ≠ 0 := by rw [e]; decide
          rw [ne_eq, okE_iff] at this
          exact lift2_no (fun h => this h.2.1)
        · have : okE ((a.den : Int) * b.num) ≠ 0 := by rw [e]; decide
          rw [ne_eq, okE_iff] at this
          exact lift2_no (fun h => this h.2.2)
end Go.Proofs.YtelckldddflmmaaGreatDoor
/- RatRefGrid: The reference's power, grid, Down and Up. -/
namespace Go.Proofs.YtelckldddflmmaaGreatDoor
open Go.RowKit Putlog

theorem tenR_step (k : Nat) : intB (10 ^ k) ++ ⟨#[48]⟩ = intB (10 ^ (k + 1)) := by
  rw [intB_ten, intB_ten]
  apply ByteArray.ext
  rw [ByteArray.data_append]
  apply Array.toList_inj.1
  rw [tenT_succ]; simp
theorem tenR_size (k : Nat) : (intB (10 ^ k)).size = k + 1 := by
  rw [intB_ten]; show (tenT k).toArray.size = k + 1
  simp [tenT]
set_option maxRecDepth 100000 in
set_option maxHeartbeats 2000000 in
theorem rpower_q (P : Nat) (hP : P ≤ 30) (W : World) : Calls Tryz.prog 80 #[.int .i64 P] W fun e w' => e = .returned (.string (intB (10 ^ P))) ∧ Below W.heap.size W w' := by
  have H1 : Hid (intB (10 ^ 0) = ⟨#[49]⟩) := by show _ = _; rw [Int.pow_zero]; exact intB_one
  have HP := Lib.hid hP
  have hPI : (P : Int) ≤ 30 := by omega
  go_enter Tryz.func80, Tryz.ntmps80
  go_wp2_with fail
  rw [← H1.out]
  go_loopw [3, 4] (fun s i wr => ∃ k : Nat, k ≤ P ∧ i = .int .i64 k ∧ s = .string (intB (10 ^ k)) ∧ wr = W) (fun _ i _ => P - (intOf i).toNat)
  case atStart => exact ⟨0, Nat.zero_le _, rfl, rfl, rfl⟩
  case round =>
    obtain ⟨k, hk, rfl, rfl, rfl⟩ := hrel
    by_cases hlt : k < P
    · have hlt' : (k : Int) < P := by omega
      have hsz := tenR_size k
      have hs2 : ((intB (10 ^ k)).size : Int) ≤ 31 := by omega
      have s3 : (⟨#[48]⟩ : ByteArray).size = 1 := rfl
      have HS := Lib.hid (tenR_step k)
      have hk30 : (k : Int) ≤ 30 := by omega
      generalize intB (10 ^ k) = t at *
      clear hsz
      go_wp2_with fail
      go_roundw
      case rel => exact ⟨k + 1, by omega, by go_num, by rw [HS.out], by trivial⟩
      case measure => simp [intOf]; omega
    · obtain rfl : k = P := by omega
      go_wp2_with fail
      go_ret
      exact ⟨rfl, Below.refl _ _⟩
def GridC (x1 x2 : ByteArray) (p : Int) (q r t : ByteArray) (ok : Bool) : Prop := ∀ w, Calls Tryz.prog 49 #[.agg #[.string x1, .string x2], .int .i64 p] w fun e w' => e = .returned (.tuple #[.string q, .string r, .string t, .bool ok]) ∧ Below w.heap.size w w'
set_option maxRecDepth 100000 in
set_option maxHeartbeats 4000000 in
theorem rgrid_inv (x1 x2 : ByteArray) (p : Int) (hv : ValidC x1 x2 false) : GridC x1 x2 p ⟨#[]⟩ ⟨#[]⟩ ⟨#[]⟩ false := by
  have V := Lib.hid hv
  clear hv
  intro W
  obtain ⟨k0, k1, kb⟩ := cell_row2 W (.string x1) (.string x2) 23
  have HBX := Lib.hid (BoxQ.new W x1 x2)
  have HW := Lib.hid kb
  clear kb
  go_enter Tryz.func49, Tryz.ntmps49
  go_wp2_with fail
  clear k0 k1
  generalize W.alloc (.cells #[.string x1, .string x2] 23) = w0 at *
  refine (V.out w0).mono ?_
  rintro e1 w1 ⟨rfl, hB⟩
  have HW := Lib.hid (belowVia hB HW.out)
  have HBX := Lib.hid (HBX.out.via hB)
  clear hB
  go_wp2_with fail
  (try simp only [Exit.inBlock, Exit.then]); refine bodyPost_ret (results_tmp4 rfl _ _ _) rfl ?_
  exact ⟨rfl, HW.out⟩
set_option maxRecDepth 100000 in
set_option maxHeartbeats 4000000 in
theorem rgrid_out (x1 x2 : ByteArray) (p : Int) (hv : ValidC x1 x2 true) (hp : p < 0 ∨ 30 < p) : GridC x1 x2 p ⟨#[]⟩ ⟨#[]⟩ ⟨#[]⟩ false := by
  have V := Lib.hid hv
  clear hv
  intro W
  obtain ⟨k0, k1, kb⟩ := cell_row2 W (.string x1) (.string x2) 23
  have HBX := Lib.hid (BoxQ.new W x1 x2)
  have HW := Lib.hid kb
  clear kb
  go_enter Tryz.func49, Tryz.ntmps49
  go_wp2_with fail
  clear k0 k1
  generalize W.alloc (.cells #[.string x1, .string x2] 23) = w0 at *
  refine (V.out w0).mono ?_
  rintro e1 w1 ⟨rfl, hB⟩
  have HW := Lib.hid (belowVia hB HW.out)
  have HBX := Lib.hid (HBX.out.via hB)
  clear hB
  rcases hp with hp | hp
  · go_wp2_with fail
    (try simp only [Exit.inBlock, Exit.then]); refine bodyPost_ret (results_tmp4 rfl _ _ _) rfl ?_
    exact ⟨rfl, HW.out⟩
  · have hp2 : ¬ p < 0 := by omega
    go_wp2_with fail
    (try simp only [Exit.inBlock, Exit.then]); refine bodyPost_ret (results_tmp4 rfl _ _ _) rfl ?_
    exact ⟨rfl, HW.out⟩
set_option maxRecDepth 100000 in
set_option maxHeartbeats 4000000 in
theorem rgrid_in (x1 x2 N Q R : ByteArray) (P : Nat) (e : Int) (hP : P ≤ 30) (hv : ValidC x1 x2 true) (hN : IntC 41 x1 (intB (10 ^ P)) N e) (he : e = 0 ∨ e = 30) (hD : e = 0 → ∀ w, Calls Tryz.prog 44 #[.string N, .string x2] w fun r w' => r = .returned (.tuple #[.string Q, .string R, .int .i64 0]) ∧ Below w.heap.size w w') : if e = 0 then GridC x1 x2 P Q R (intB (10 ^ P)) true else GridC x1 x2 P ⟨#[]⟩ ⟨#[]⟩ ⟨#[]⟩ false := by
  have V := Lib.hid hv
  have NN := Lib.hid hN
  have DD := Lib.hid hD
  have HPW := Lib.hid (fun W => rpower_q P hP W)
  have p0 : ¬ (P : Int) < 0 := by omega
  have p1 : ¬ (30 : Int) < P := by omega
  clear hv hN hD hP
  generalize intB (10 ^ P) = t at *
  rcases he with rfl | rfl
  · rw [if_pos rfl]
    intro W
    obtain ⟨k0, k1, kb⟩ := cell_row2 W (.string x1) (.string x2) 23
    have HBX := Lib.hid (BoxQ.new W x1 x2)
    have HW := Lib.hid kb
    clear kb
    go_enter Tryz.func49, Tryz.ntmps49
    go_wp2_with fail
    clear k0 k1
    generalize W.alloc (.cells #[.string x1, .string x2] 23) = w0 at *
    refine (V.out w0).mono ?_
    rintro e1 w1 ⟨rfl, hB⟩
    have HW := Lib.hid (belowVia hB HW.out)
    have HBX := Lib.hid (HBX.out.via hB)
    clear hB
    obtain ⟨k0, k1⟩ := HBX.out
    go_wp2_with fail
    clear k0 k1
    refine (HPW.out w1).mono ?_
    rintro e2 w2 ⟨rfl, hB⟩
    have HW := Lib.hid (belowVia hB HW.out)
    have HBX := Lib.hid (HBX.out.via hB)
    clear hB
    obtain ⟨k0, k1⟩ := HBX.out
    go_wp2_with fail
    clear k0 k1
    refine (NN.out w2).mono ?_
    rintro e3 w3 ⟨rfl, hB⟩
    have HW := Lib.hid (belowVia hB HW.out)
    have HBX := Lib.hid (HBX.out.via hB)
    clear hB
    obtain ⟨k0, k1⟩ := HBX.out
    go_wp2_with fail
    clear k0 k1
    refine (DD.out (by trivial) w3).mono ?_
    rintro e4 w4 ⟨rfl, hB⟩
    have HW := Lib.hid (belowVia hB HW.out)
    clear hB
    go_wp2_with fail
    (try simp only [Exit.inBlock, Exit.then]); refine bodyPost_ret (results_tmp4 rfl _ _ _) rfl ?_
    exact ⟨rfl, HW.out⟩
  · rw [if_neg (by decide)]
    intro W
    obtain ⟨k0, k1, kb⟩ := cell_row2 W (.string x1) (.string x2) 23
    have HBX := Lib.hid (BoxQ.new W x1 x2)
    have HW := Lib.hid kb
    clear kb
    go_enter Tryz.func49, Tryz.ntmps49
    go_wp2_with fail
    clear k0 k1
    generalize W.alloc (.cells #[.string x1, .string x2] 23) = w0 at *
    refine (V.out w0).mono ?_
    rintro e1 w1 ⟨rfl, hB⟩
    have HW := Lib.hid (belowVia hB HW.out)
    have HBX := Lib.hid (HBX.out.via hB)
    clear hB
    obtain ⟨k0, k1⟩ := HBX.out
    go_wp2_with fail
    clear k0 k1
    refine (HPW.out w1).mono ?_
    rintro e2 w2 ⟨rfl, hB⟩
    have HW := Lib.hid (belowVia hB HW.out)
    have HBX := Lib.hid (HBX.out.via hB)
    clear hB
    obtain ⟨k0, k1⟩ := HBX.out
    go_wp2_with fail
    clear k0 k1
    refine (NN.out w2).mono ?_
    rintro e3 w3 ⟨rfl, hB⟩
    have HW := Lib.hid (belowVia hB HW.out)
    have HBX := Lib.hid (HBX.out.via hB)
    clear hB
    obtain ⟨k0, k1⟩ := HBX.out
    go_wp2_with fail
    (try simp only [Exit.inBlock, Exit.then]); refine bodyPost_ret (results_tmp4 rfl _ _ _) rfl ?_
    exact ⟨rfl, HW.out⟩
set_option maxRecDepth 100000 in
set_option maxHeartbeats 4000000 in
theorem rdown_w (x1 x2 Q R t : ByteArray) (p : Int) (ok : Bool) (o : Option Rat) (hG : GridC x1 x2 p Q R t ok) (hM : ok = true → MakeC Q t o) (h0 : ok = false → o = none) (W : World) :
    Calls Tryz.prog 19 #[.agg #[.string x1, .string x2], .int .i64 p] W (GivesQ o W) := by
  have GG := Lib.hid hG
  have MM := Lib.hid hM
  have H0 := Lib.hid h0
  clear hG hM h0
  go_enter Tryz.func19, Tryz.ntmps19
  have HBX := Lib.hid ((BoxQ.new W x1 x2).via (alloc_below _ (.cells #[.string ⟨#[]⟩, .string ⟨#[]⟩] 23)))
  obtain ⟨k0, k1⟩ := HBX.out
  go_wp2_with fail
  clear k0 k1
  have HW := Lib.hid (belowVia (alloc_below (W.alloc (.cells #[.string x1, .string x2] 23)) (.cells #[.string ⟨#[]⟩, .string ⟨#[]⟩] 23)) (alloc_below W (.cells #[.string x1, .string x2] 23)))
  have hr0 := heap_alloc_new (W.alloc (.cells #[.string x1, .string x2] 23)) (.cells #[.string ⟨#[]⟩, .string ⟨#[]⟩] 23)
  rw [show (W.alloc (.cells #[.string x1, .string x2] 23)).heap.size = W.heap.size + 1 by simp] at hr0
  have HRB : Hid (ResBox (W.heap.size + 1) _) := Lib.hid (ResBox.mk hr0)
  clear hr0
  generalize (W.alloc (.cells #[.string x1, .string x2] 23)).alloc (.cells #[.string ⟨#[]⟩, .string ⟨#[]⟩] 23) = w0 at *
  refine (GG.out w0).mono ?_
  rintro e1 w1 ⟨rfl, hB⟩
  have HW := Lib.hid (belowVia hB HW.out)
  have HRB := Lib.hid (ResBox.mk (p := W.heap.size + 1) (heap_below hB HRB.out.heap))
  clear hB
  cases ok with
  | false =>
    have HN := Lib.hid (H0.out rfl)
    obtain ⟨q1, f1⟩ := cell2 HRB.out.heap
    obtain ⟨q2, f2⟩ := cell2b HRB.out.heap
    go_wp2_with fail
    refine bodyPost_ret (results_qe rfl _ _ (W.heap.size + 1) _ _ rfl (HRB.out.set _ _)) rfl ?_
    exact ⟨by rw [HN.out]; rfl, below_set2 HW.out (by omega) _ _⟩
  | true =>
    go_wp2_with fail
    refine (MM.out (by trivial) w1).mono ?_
    rintro e2 w2 ⟨rfl, hB⟩
    have HW := Lib.hid (belowVia hB HW.out)
    have HRB := Lib.hid (ResBox.mk (p := W.heap.size + 1) (heap_below hB HRB.out.heap))
    clear hB
    obtain ⟨q1, f1⟩ := cell2 HRB.out.heap
    obtain ⟨q2, f2⟩ := cell2b HRB.out.heap
    go_wp2_with fail
    refine bodyPost_ret (results_qe rfl _ _ (W.heap.size + 1) _ _ rfl (HRB.out.set _ _)) rfl ?_
    exact ⟨rfl, below_set2 HW.out (by omega) _ _⟩
set_option maxRecDepth 100000 in
set_option maxHeartbeats 4000000 in
theorem rup_w (x1 x2 Q R t Q2 : ByteArray) (p : Int) (ok z : Bool) (e : Int) (o : Option Rat) (hG : GridC x1 x2 p Q R t ok) (hz : (R.toList == [48]) = z) (hA : ok = true → z = false → IntC 39 Q ⟨#[49]⟩ Q2 e) (he : e = 0 ∨ e = 30) (hM : ok = true → z = true → MakeC Q t o) (hM2 : ok = true → z = false → e = 0 → MakeC Q2 t o) (h0 : ok = false → o = none) (h1 : ok = true → z = false → e = 30 → o = none) (W : World) :
    Calls Tryz.prog 21 #[.agg #[.string x1, .string x2], .int .i64 p] W (GivesQ o W) := by
  have GG := Lib.hid hG
  have AA := Lib.hid hA
  have MM := Lib.hid hM
  have M2 := Lib.hid hM2
  have H0 := Lib.hid h0
  have H1 := Lib.hid h1
  clear hG hA hM hM2 h0 h1
  go_enter Tryz.func21, Tryz.ntmps21
  have HBX := Lib.hid ((BoxQ.new W x1 x2).via (alloc_below _ (.cells #[.string ⟨#[]⟩, .string ⟨#[]⟩] 23)))
  obtain ⟨k0, k1⟩ := HBX.out
  go_wp2_with fail
  clear k0 k1
  have HW := Lib.hid (belowVia (alloc_below (W.alloc (.cells #[.string x1, .string x2] 23)) (.cells #[.string ⟨#[]⟩, .string ⟨#[]⟩] 23)) (alloc_below W (.cells #[.string x1, .string x2] 23)))
  have hr0 := heap_alloc_new (W.alloc (.cells #[.string x1, .string x2] 23)) (.cells #[.string ⟨#[]⟩, .string ⟨#[]⟩] 23)
  rw [show (W.alloc (.cells #[.string x1, .string x2] 23)).heap.size = W.heap.size + 1 by simp] at hr0
  have HRB : Hid (ResBox (W.heap.size + 1) _) := Lib.hid (ResBox.mk hr0)
  clear hr0
  generalize (W.alloc (.cells #[.string x1, .string x2] 23)).alloc (.cells #[.string ⟨#[]⟩, .string ⟨#[]⟩] 23) = w0 at *
  refine (GG.out w0).mono ?_
  rintro e1 w1 ⟨rfl, hB⟩
  have HW := Lib.hid (belowVia hB HW.out)
  have HRB := Lib.hid (ResBox.mk (p := W.heap.size + 1) (heap_below hB HRB.out.heap))
  clear hB
  cases ok with
  | false =>
    have HN := Lib.hid (H0.out rfl)
    obtain ⟨q1, f1⟩ := cell2 HRB.out.heap
    obtain ⟨q2, f2⟩ := cell2b HRB.out.heap
    go_wp2_with fail
    refine bodyPost_ret (results_qe rfl _ _ (W.heap.size + 1) _ _ rfl (HRB.out.set _ _)) rfl ?_
    exact ⟨by rw [HN.out]; rfl, below_set2 HW.out (by omega) _ _⟩
  | true =>
    cases z with
    | true =>
      go_wp2_with fail
      refine (MM.out (by trivial) (by trivial) w1).mono ?_
      rintro e2 w2 ⟨rfl, hB⟩
      have HW := Lib.hid (belowVia hB HW.out)
      have HRB := Lib.hid (ResBox.mk (p := W.heap.size + 1) (heap_below hB HRB.out.heap))
      clear hB
      obtain ⟨q1, f1⟩ := cell2 HRB.out.heap
      obtain ⟨q2, f2⟩ := cell2b HRB.out.heap
      go_wp2_with fail
      refine bodyPost_ret (results_qe rfl _ _ (W.heap.size + 1) _ _ rfl (HRB.out.set _ _)) rfl ?_
      exact ⟨rfl, below_set2 HW.out (by omega) _ _⟩
    | false =>
      go_wp2_with fail
      refine (AA.out (by trivial) (by trivial) w1).mono ?_
      rintro e2 w2 ⟨rfl, hB⟩
      have HW := Lib.hid (belowVia hB HW.out)
      have HRB := Lib.hid (ResBox.mk (p := W.heap.size + 1) (heap_below hB HRB.out.heap))
      clear hB
      rcases he with rfl | rfl
      · go_wp2_with fail
        refine (M2.out (by trivial) (by trivial) (by trivial) w2).mono ?_
        rintro e3 w3 ⟨rfl, hB⟩
        have HW := Lib.hid (belowVia hB HW.out)
        have HRB := Lib.hid (ResBox.mk (p := W.heap.size + 1) (heap_below hB HRB.out.heap))
        clear hB
        obtain ⟨q1, f1⟩ := cell2 HRB.out.heap
        obtain ⟨q2, f2⟩ := cell2b HRB.out.heap
        go_wp2_with fail
        refine bodyPost_ret (results_qe rfl _ _ (W.heap.size + 1) _ _ rfl (HRB.out.set _ _)) rfl ?_
        exact ⟨rfl, below_set2 HW.out (by omega) _ _⟩
      · have HN := Lib.hid (H1.out (by trivial) (by trivial) (by trivial))
        obtain ⟨q1, f1⟩ := cell2 HRB.out.heap
        obtain ⟨q2, f2⟩ := cell2b HRB.out.heap
        go_wp2_with fail
        refine bodyPost_ret (results_qe rfl _ _ (W.heap.size + 1) _ _ rfl (HRB.out.set _ _)) rfl ?_
        exact ⟨by rw [HN.out]; rfl, below_set2 HW.out (by omega) _ _⟩
theorem ten_fitsR {P : Nat} (h : P ≤ 30) : Fits ((10 : Int) ^ P) := by
  refine fits_pow (j := 31) ?_ (by decide)
  rw [Int.natAbs_pow]
  exact Nat.pow_lt_pow_right (by decide) (by omega)
theorem ten_ne (P : Nat) : (10 : Int) ^ P ≠ 0 := Int.ne_of_gt (Int.pow_pos (by decide))
theorem rdown_q (x1 x2 : ByteArray) (hx1 : Sized x1) (hx2 : Sized x2) (p : Int) (W : World) :
    Calls Tryz.prog 19 #[.agg #[.string x1, .string x2], .int .i64 p] W (GivesQ (downQ (readQ x1 x2) p) W) := by
  have hv := rvalid_c x1 x2 hx1 hx2
  rcases readQ_isSome (n := x1) (d := x2) with h | ⟨a, h, rfl, rfl, fa⟩
  · rw [h] at hv ⊢
    exact rdown_w _ _ _ _ _ _ _ _ (rgrid_inv x1 x2 p hv) (fun e => by cases e) (fun _ => rfl) W
  · rw [h] at hv ⊢
    by_cases hp : 0 ≤ p ∧ p ≤ 30
    · obtain ⟨P, rfl⟩ : ∃ P : Nat, p = P := ⟨p.toNat, by omega⟩
      have hP : P ≤ 30 := by omega
      have hg := rgrid_in _ _ _ (intB (downI a P)) (intB (a.num * 10 ^ P % a.den)) P _ hP hv (rmul_c fa.1 (ten_fitsR hP)) (okE_02 _) (fun e w => by
        rw [okE_iff] at e
        rw [okS_fits e]
        exact rdiv_ok _ _ e fa.2 (Int.ne_of_gt (den_posI a)) w)
      by_cases hf : Fits (a.num * 10 ^ P)
      · rw [(okE_iff _).2 hf, if_pos rfl] at hg
        refine rdown_w _ _ _ _ _ _ _ _ hg (fun _ => ?_) (fun e => by cases e) W
        refine make_c (Nat.lt_of_le_of_lt (Int.natAbs_ediv_le_natAbs _ _) hf) (ten_fitsR hP) ?_
        rw [makeQ_ok (ten_ne P)]
        show _ = if _ then _ else _
        rw [if_pos ⟨by omega, by rw [Int.toNat_natCast]; exact ⟨hP, hf⟩⟩, Int.toNat_natCast]
        rfl
      · rw [if_neg (fun e => hf ((okE_iff _).1 e))] at hg
        refine rdown_w _ _ _ _ _ _ _ _ hg (fun e => by cases e) (fun _ => ?_) W
        exact if_neg (fun k => hf (by have := k.2.2; rwa [Int.toNat_natCast] at this))
    · refine rdown_w _ _ _ _ _ _ _ _ (rgrid_out _ _ p hv (by omega)) (fun e => by cases e) (fun _ => ?_) W
      exact if_neg (fun k => hp ⟨k.1, by have := k.2.1; omega⟩)
theorem rup_q (x1 x2 : ByteArray) (hx1 : Sized x1) (hx2 : Sized x2) (p : Int) (W : World) :
    Calls Tryz.prog 21 #[.agg #[.string x1, .string x2], .int .i64 p] W (GivesQ (upQ (readQ x1 x2) p) W) := by
  have hv := rvalid_c x1 x2 hx1 hx2
  rcases readQ_isSome (n := x1) (d := x2) with h | ⟨a, h, rfl, rfl, fa⟩
  · rw [h] at hv ⊢
    exact rup_w _ _ _ _ _ ⟨#[]⟩ _ _ _ 0 _ (rgrid_inv x1 x2 p hv) rfl (fun e => by cases e) (.inl rfl) (fun e => by cases e) (fun e => by cases e) (fun _ => rfl) (fun e => by cases e) W
  · rw [h] at hv ⊢
    by_cases hp : 0 ≤ p ∧ p ≤ 30
    · obtain ⟨P, rfl⟩ : ∃ P : Nat, p = P := ⟨p.toNat, by omega⟩
      have hP : P ≤ 30 := by omega
      have hg := rgrid_in _ _ _ (intB (downI a P)) (intB (a.num * 10 ^ P % a.den)) P _ hP hv (rmul_c fa.1 (ten_fitsR hP)) (okE_02 _) (fun e w => by
        rw [okE_iff] at e
        rw [okS_fits e]
        exact rdiv_ok _ _ e fa.2 (Int.ne_of_gt (den_posI a)) w)
      by_cases hf : Fits (a.num * 10 ^ P)
      · rw [(okE_iff _).2 hf, if_pos rfl] at hg
        have fd : Fits (downI a P) := Nat.lt_of_le_of_lt (Int.natAbs_ediv_le_natAbs _ _) hf
        have hz := isZ (a.num * 10 ^ P % a.den)
        by_cases h0 : a.num * 10 ^ P % a.den = 0
        · rw [decide_eq_true h0] at hz
          have hu : upI a P = downI a P := if_pos h0
          refine rup_w _ _ _ _ _ ⟨#[]⟩ _ _ _ 0 _ hg hz (fun _ e => by cases e) (.inl rfl) (fun _ _ => ?_) (fun _ e => by cases e) (fun e => by cases e) (fun _ e => by cases e) W
          refine make_c fd (ten_fitsR hP) ?_
          rw [makeQ_ok (ten_ne P)]
          show _ = if _ then _ else _
          rw [if_pos ⟨by omega, by rw [Int.toNat_natCast]; exact ⟨⟨hP, hf⟩, by rw [hu]; exact fd⟩⟩, Int.toNat_natCast, hu]
        · rw [decide_eq_false h0] at hz
          have hu : upI a P = downI a P + 1 := if_neg h0
          refine rup_w _ _ _ _ _ (okS (downI a P + 1)) _ _ _ (okE (downI a P + 1)) _ hg hz (fun _ _ => ?_) (okE_02 _) (fun _ e => by cases e) (fun _ _ e => ?_) (fun e => by cases e) (fun _ _ e => ?_) W
          · rw [← intB_one]; exact fun w => radd_ok _ _ fd (by decide) w
          · rw [okE_iff] at e
            rw [okS_fits e]
            refine make_c e (ten_fitsR hP) ?_
            rw [makeQ_ok (ten_ne P)]
            show _ = if _ then _ else _
            rw [if_pos ⟨by omega, by rw [Int.toNat_natCast]; exact ⟨⟨hP, hf⟩, by rw [hu]; exact e⟩⟩, Int.toNat_natCast, hu]
          · have : okE (downI a P + 1) ≠ 0 := by rw [e]; decide
            rw [ne_eq, okE_iff] at this
            exact if_neg (fun k => this (by have := k.2.2; rwa [Int.toNat_natCast, hu] at this))
      · rw [if_neg (fun e => hf ((okE_iff _).1 e))] at hg
        refine rup_w _ _ _ _ _ ⟨#[]⟩ _ _ _ 0 _ hg rfl (fun e => by cases e) (.inl rfl) (fun e => by cases e) (fun e => by cases e) (fun _ => ?_) (fun e => by cases e) W
        exact if_neg (fun k => hf (by have := k.2.1.2; rwa [Int.toNat_natCast] at this))
    · refine rup_w _ _ _ _ _ ⟨#[]⟩ _ _ _ 0 _ (rgrid_out _ _ p hv (by omega)) rfl (fun e => by cases e) (.inl rfl) (fun e => by cases e) (fun e => by cases e) (fun _ => ?_) (fun e => by cases e) W
      exact if_neg (fun k => hp ⟨k.1, by have := k.2.1.1; omega⟩)
end Go.Proofs.YtelckldddflmmaaGreatDoor
/- RatRefCmp: The reference's Compare. -/
namespace Go.Proofs.YtelckldddflmmaaGreatDoor
open Go.RowKit Putlog

set_option maxRecDepth 100000 in
theorem rzeroOr_any (r : Int) (W : World) (hz : ((intB r).toList == [48]) = decide (r = 0)) : Calls Tryz.prog 46 #[.string (intB r)] W fun e w' => e = .returned (.string (intB (zeroOr r))) ∧ w' = W := by
  unfold zeroOr
  by_cases h : r = 0
  · rw [if_pos h]
    rw [decide_eq_true h] at hz
    rw [show intB (0 : Int) = intB r by rw [h]]
    generalize intB r = x at *
    clear h
    go_enter Tryz.func46, Tryz.ntmps46
    go_wp2_with fail
    go_ret
    exact ⟨rfl, rfl⟩
  · rw [if_neg h]
    rw [decide_eq_false h] at hz
    rw [intB_one]
    generalize intB r = x at *
    clear h
    go_enter Tryz.func46, Tryz.ntmps46
    go_wp2_with fail
    go_ret
    exact ⟨rfl, rfl⟩
/-- One round of the comparison. -/
theorem cmp_round {n d m c : Int} (hd : 0 < d) (hc : 0 < c) :
    (n / d ≠ m / c → cmpZ (n * c) (m * d) = cmpZ (n / d) (m / c)) ∧
    (n / d = m / c → (n % d = 0 ∨ m % c = 0) → cmpZ (n * c) (m * d) = cmpZ (zeroOr (n % d)) (zeroOr (m % c))) ∧
    (n / d = m / c → cmpZ (n * c) (m * d) = - cmpZ (d * (m % c)) (c * (n % d))) := by
  have r0 := Int.emod_nonneg n (Int.ne_of_gt hd)
  have s0 := Int.emod_nonneg m (Int.ne_of_gt hc)
  refine ⟨fun h => (cmp_whole hd hc h).symm, fun h k => ?_, fun h => ?_⟩
  · rw [cmp_rest h, cmp_end hd hc r0 s0 k, cmp_zeroOr r0 s0 k]
  · rw [cmp_rest h, ← cmpZ_swap, Int.mul_comm (n % d) c, Int.mul_comm (m % c) d]
set_option maxRecDepth 100000 in
set_option maxHeartbeats 8000000 in
theorem rcompare_w (x1 x2 y1 y2 : ByteArray) (v1 v2 : Bool) (hv1 : ValidC x1 x2 v1) (hv2 : ValidC y1 y2 v2) (h : (v1 && v2) = false) (W : World) :
    Calls Tryz.prog 16 #[.agg #[.string x1, .string x2], .agg #[.string y1, .string y2]] W fun e w' => e = .returned (.int .i64 0) ∧ Below W.heap.size W w' := by
  have V1 := Lib.hid hv1
  have V2 := Lib.hid hv2
  clear hv1 hv2
  go_enter Tryz.func16, Tryz.ntmps16
  have HBX := Lib.hid (Boxes2.new W x1 x2 y1 y2)
  obtain ⟨k0, k1, k2, k3⟩ := HBX.out
  have HW := Lib.hid (belowVia (alloc_below (W.alloc (.cells #[.string x1, .string x2] 23)) (.cells #[.string y1, .string y2] 23)) (alloc_below W (.cells #[.string x1, .string x2] 23)))
  go_wp2_with fail
  clear k0 k1 k2 k3
  generalize (W.alloc (.cells #[.string x1, .string x2] 23)).alloc (.cells #[.string y1, .string y2] 23) = w0 at *
  refine (V1.out w0).mono ?_
  rintro e1 w1 ⟨rfl, hB⟩
  have HW := Lib.hid (belowVia hB HW.out)
  have HBX := Lib.hid (HBX.out.via hB)
  clear hB
  obtain ⟨k0, k1, k2, k3⟩ := HBX.out
  go_wp2_with fail
  clear k0 k1 k2 k3
  refine (V2.out w1).mono ?_
  rintro e2 w2 ⟨rfl, hB⟩
  have HW := Lib.hid (belowVia hB HW.out)
  clear hB
  cases v1 with
  | false =>
    go_wp2_with fail
    go_ret
    exact ⟨rfl, HW.out⟩
  | true =>
    obtain rfl : v2 = false := by simpa using h
    go_wp2_with fail
    go_ret
    exact ⟨rfl, HW.out⟩
structure CmpLoop (T : Int) (sg n d m c : Int) : Prop where
  fn : Fits n
  fd : Fits d
  fm : Fits m
  fc : Fits c
  d0 : 0 < d
  c0 : 0 < c
  sg1 : sg = 1 ∨ sg = -1
  val : sg * cmpZ (n * c) (m * d) = T
theorem fits_emod {a b : Int} (hb : Fits b) (h0 : 0 < b) : Fits (a % b) := by
  have h1 := Int.emod_nonneg a (Int.ne_of_gt h0)
  have h2 := Int.emod_lt_of_pos a h0
  unfold Fits at *; omega
theorem fits_ediv {a b : Int} (ha : Fits a) : Fits (a / b) := Nat.lt_of_le_of_lt (Int.natAbs_ediv_le_natAbs a b) ha
theorem zeroOr_fits (r : Int) : Fits (zeroOr r) := by unfold zeroOr; split <;> decide
set_option maxRecDepth 100000 in
set_option maxHeartbeats 8000000 in
theorem rcmpq_ok {a b : Rat} (ha : FitsQ a) (hb : FitsQ b) (W : World) :
    Calls Tryz.prog 16 #[.agg #[.string (intB a.num), .string (intB a.den)], .agg #[.string (intB b.num), .string (intB b.den)]] W fun e w' => e = .returned (.int .i64 (cmpR a b)) ∧ Below W.heap.size W w' := by
  have h1 := rvalid_c (intB a.num) (intB a.den) (sized_fits ha.1) (sized_fits ha.2)
  have h2 := rvalid_c (intB b.num) (intB b.den) (sized_fits hb.1) (sized_fits hb.2)
  rw [readQ_rat ha] at h1
  rw [readQ_rat hb] at h2
  have V1 : Hid (ValidC _ _ true) := Lib.hid h1
  have V2 : Hid (ValidC _ _ true) := Lib.hid h2
  have HL : Hid (CmpLoop (cmpR a b) 1 a.num a.den b.num b.den) := ⟨ha.1, ha.2, hb.1, hb.2, den_posI a, den_posI b, .inl rfl, by rw [Int.one_mul]; rfl⟩
  clear h1 h2 ha hb
  generalize cmpR a b = T at *
  generalize a.num = n0 at *
  generalize (a.den : Int) = d0 at *
  generalize b.num = m0 at *
  generalize (b.den : Int) = c0 at *
  clear a b
  go_enter Tryz.func16, Tryz.ntmps16
  have HBX := Lib.hid (Boxes2.new W (intB n0) (intB d0) (intB m0) (intB c0))
  obtain ⟨k0, k1, k2, k3⟩ := HBX.out
  have HW := Lib.hid (belowVia (alloc_below (W.alloc (.cells #[.string (intB n0), .string (intB d0)] 23)) (.cells #[.string (intB m0), .string (intB c0)] 23)) (alloc_below W (.cells #[.string (intB n0), .string (intB d0)] 23)))
  go_wp2_with fail
  clear k0 k1 k2 k3
  generalize (W.alloc (.cells #[.string (intB n0), .string (intB d0)] 23)).alloc (.cells #[.string (intB m0), .string (intB c0)] 23) = w0 at *
  refine (V1.out w0).mono ?_
  rintro e1 w1 ⟨rfl, hB⟩
  have HW := Lib.hid (belowVia hB HW.out)
  have HBX := Lib.hid (HBX.out.via hB)
  clear hB
  obtain ⟨k0, k1, k2, k3⟩ := HBX.out
  go_wp2_with fail
  clear k0 k1 k2 k3
  refine (V2.out w1).mono ?_
  rintro e2 w2 ⟨rfl, hB⟩
  have HW := Lib.hid (belowVia hB HW.out)
  have HBX := Lib.hid (HBX.out.via hB)
  clear hB
  obtain ⟨k0, k1, k2, k3⟩ := HBX.out
  go_wp2_with fail
  clear k0 k1 k2 k3 HBX V1 V2
  go_loopw [7, 8, 9, 10, 11] (fun s x1 x2 y1 y2 wr => ∃ (sg n d m c : Int), s = .int .i64 sg ∧ x1 = .string (intB n) ∧ x2 = .string (intB d) ∧ y1 = .string (intB m) ∧ y2 = .string (intB c) ∧ CmpLoop T sg n d m c ∧ (intV (intB d).data.toList) = d ∧ Below W.heap.size W wr) (fun _ _ x2 _ _ _ => (match x2 with | .string b => (intV b.data.toList).toNat | _ => 0))
  case atStart => exact ⟨1, n0, d0, m0, c0, rfl, rfl, rfl, rfl, rfl, HL.out, by rw [intB_toList, intT_val], HW.out⟩
  case round =>
    obtain ⟨sg, n, d, m, c, rfl, rfl, rfl, rfl, rfl, hC, hdv, hB⟩ := hrel
    have HC := Lib.hid hC
    have HB := Lib.hid hB
    have HD1 := Lib.hid (fun w => rdiv_ok n d hC.fn hC.fd (Int.ne_of_gt hC.d0) w)
    have HD2 := Lib.hid (fun w => rdiv_ok m c hC.fm hC.fc (Int.ne_of_gt hC.c0) w)
    have HCQ := Lib.hid (fun w => rcompare_ok (n / d) (m / c) (fits_ediv hC.fn) (fits_ediv hC.fm) w)
    obtain ⟨R1, R2, R3⟩ := cmp_round (n := n) (m := m) hC.d0 hC.c0
    have zr := isZ (n % d)
    have zs := isZ (m % c)
    have HZ1 := Lib.hid (fun w => rzeroOr_any (n % d) w zr)
    have HZ2 := Lib.hid (fun w => rzeroOr_any (m % c) w zs)
    have HCZ := Lib.hid (fun w => rcompare_ok (zeroOr (n % d)) (zeroOr (m % c)) (zeroOr_fits _) (zeroOr_fits _) w)
    have fr := fits_emod (a := n) hC.fd hC.d0
    have fs := fits_emod (a := m) hC.fc hC.c0
    have r0 := Int.emod_nonneg n (Int.ne_of_gt hC.d0)
    have r1 := Int.emod_lt_of_pos n hC.d0
    have s0 := Int.emod_nonneg m (Int.ne_of_gt hC.c0)
    have HV : Hid (sg * cmpZ (n * c) (m * d) = T) := hC.val
    have hsg := hC.sg1
    have HFS := Lib.hid (And.intro hC.fd (And.intro hC.fc (And.intro hC.d0 hC.c0)))
    clear hC hB HC hdv
    rw [cmpI_Z] at HCQ HCZ
    generalize cmpZ (n * c) (m * d) = K at *
    obtain ⟨qn, hqn⟩ : ∃ qn, qn = n / d := ⟨_, rfl⟩
    obtain ⟨qm, hqm⟩ : ∃ qm, qm = m / c := ⟨_, rfl⟩
    obtain ⟨r, hr⟩ : ∃ r, r = n % d := ⟨_, rfl⟩
    obtain ⟨s, hs⟩ : ∃ s, s = m % c := ⟨_, rfl⟩
    rw [← hqn, ← hqm] at HCQ R1 R2 R3
    rw [← hqn, ← hr] at HD1
    rw [← hqm, ← hs] at HD2
    rw [← hr] at zr HZ1 HCZ fr r0 r1 R2 R3
    rw [← hs] at zs HZ2 HCZ fs s0 R2 R3
    clear hqn hqm hr hs
    have HR1 := Lib.hid R1
    have HR2 := Lib.hid R2
    have HR3 := Lib.hid R3
    have ZR := Lib.hid zr
    have ZS := Lib.hid zs
    have HRS := Lib.hid (And.intro fr (And.intro fs (And.intro r0 (And.intro r1 s0))))
    have KB1 := cmpZ_bounds qn qm
    have KB2 := cmpZ_bounds (zeroOr r) (zeroOr s)
    clear R1 R2 R3 zr zs fr fs r0 r1 s0
    go_wp2_with fail
    refine (HD1.out _).mono ?_
    rintro e3 w3 ⟨rfl, hB⟩
    have HB := Lib.hid (belowVia hB HB.out)
    clear hB
    go_wp2_with fail
    refine (HD2.out _).mono ?_
    rintro e4 w4 ⟨rfl, hB⟩
    have HB := Lib.hid (belowVia hB HB.out)
    clear hB
    go_wp2_with fail
    refine (HCQ.out _).mono ?_
    rintro e5 w5 ⟨rfl, hB⟩
    have HB := Lib.hid (belowVia hB HB.out)
    clear hB
    by_cases hw : qn = qm
    · have k0 : cmpZ qn qm = 0 := cmpZ_zero.2 hw
      have HE := Lib.hid hw
      rw [k0]
      clear hw k0 KB1
      by_cases hz : r = 0 ∨ s = 0
      · have hT := HV.out
        rw [HR2.out HE.out hz] at hT
        have hb : ((intB r).toList == [48]) = true ∨ (((intB r).toList == [48]) = false ∧ ((intB s).toList == [48]) = true) := by
          rw [ZR.out, ZS.out]
          by_cases e : r = 0
          · exact .inl (decide_eq_true e)
          · exact .inr ⟨decide_eq_false e, decide_eq_true (by omega)⟩
        have hwr : IntKind.i64.wrap (sg * cmpZ (zeroOr r) (zeroOr s)) = T := by
          rw [hT, IntKind.wrap_i64]
          rcases hsg with e | e <;> rw [e] at hT <;> omega
        generalize cmpZ (zeroOr r) (zeroOr s) = kz at *
        clear hz hT hsg
        rcases hb with hb | ⟨hb, hb2⟩
        · go_wp2_with fail
          refine (HZ1.out _).mono ?_
          rintro e6 w6 ⟨rfl, rfl⟩
          go_wp2_with fail
          refine (HZ2.out _).mono ?_
          rintro e7 w7 ⟨rfl, rfl⟩
          go_wp2_with fail
          refine (HCZ.out _).mono ?_
          rintro e8 w8 ⟨rfl, hB⟩
          have HB := Lib.hid (belowVia hB HB.out)
          clear hB
          go_wp2_with fail
          go_ret
          exact ⟨rfl, HB.out⟩
        · go_wp2_with fail
          refine (HZ1.out _).mono ?_
          rintro e6 w6 ⟨rfl, rfl⟩
          go_wp2_with fail
          refine (HZ2.out _).mono ?_
          rintro e7 w7 ⟨rfl, rfl⟩
          go_wp2_with fail
          refine (HCZ.out _).mono ?_
          rintro e8 w8 ⟨rfl, hB⟩
          have HB := Lib.hid (belowVia hB HB.out)
          clear hB
          go_wp2_with fail
          go_ret
          exact ⟨rfl, HB.out⟩
      · have hb1 : ((intB r).toList == [48]) = false := by rw [ZR.out]; exact decide_eq_false (fun e => hz (.inl e))
        have hb2 : ((intB s).toList == [48]) = false := by rw [ZS.out]; exact decide_eq_false (fun e => hz (.inr e))
        have hn : IntKind.i64.wrap (-sg) = -sg := by rw [IntKind.wrap_i64]; omega
        have HN : Hid (CmpLoop T (-sg) d r c s) := ⟨HFS.out.1, HRS.out.1, HFS.out.2.1, HRS.out.2.1, by have := HRS.out.2.2.1; omega, by have := HRS.out.2.2.2.2; omega, by omega, by
          have := HV.out
          rw [HR3.out HE.out] at this
          rw [← this, Int.neg_mul, Int.mul_neg]⟩
        clear hz hsg
        go_wp2_with fail
        go_roundw
        case rel => exact ⟨-sg, d, r, c, s, by go_num, rfl, rfl, rfl, rfl, HN.out, by rw [intB_toList, intT_val], HB.out⟩
        case measure =>
          have h1 := HRS.out.2.2.1
          have h2 := HRS.out.2.2.2.1
          simp only [intB_toList, intT_val]; omega
    · have hT := HV.out
      rw [HR1.out hw] at hT
      have hkz : (cmpZ qn qm != 0) = true := by rw [bne_iff_ne]; exact fun e => hw (cmpZ_zero.1 e)
      have hwr : IntKind.i64.wrap (sg * cmpZ qn qm) = T := by
        rw [hT, IntKind.wrap_i64]
        rcases hsg with e | e <;> rw [e] at hT <;> omega
      generalize cmpZ qn qm = kz at *
      clear hw hT hsg
      go_wp2_with fail
      go_ret
      exact ⟨rfl, HB.out⟩
theorem rcompare_q (x1 x2 y1 y2 : ByteArray) (hx1 : Sized x1) (hx2 : Sized x2) (hy1 : Sized y1) (hy2 : Sized y2) (W : World) :
    Calls Tryz.prog 16 #[.agg #[.string x1, .string x2], .agg #[.string y1, .string y2]] W fun e w' => e = .returned (.int .i64 (cmpO (readQ x1 x2) (readQ y1 y2))) ∧ Below W.heap.size W w' := by
  have h1 := rvalid_c x1 x2 hx1 hx2
  have h2 := rvalid_c y1 y2 hy1 hy2
  rcases readQ_isSome (n := x1) (d := x2) with h | ⟨a, h, rfl, rfl, fa⟩
  · rw [h] at h1 ⊢
    exact rcompare_w _ _ _ _ _ _ h1 h2 (by simp) W
  · rcases readQ_isSome (n := y1) (d := y2) with k | ⟨b, k, rfl, rfl, fb⟩
    · rw [k] at h2
      rw [k, h]
      exact rcompare_w _ _ _ _ _ _ h1 h2 (by simp) W
    · rw [h, k]
      exact rcmpq_ok fa fb W
end Go.Proofs.YtelckldddflmmaaGreatDoor
/- RatMatF: What RationalMatchesReference calls: both answer alike. -/
namespace Go.Proofs.YtelckldddflmmaaGreatDoor
open Go.RowKit Putlog

def OpD (f : FuncId) (x1 x2 y1 y2 n d : ByteArray) (e : Int) : Prop := ∀ w, Calls Tryz.prog f #[.agg #[.string x1, .string x2], .agg #[.string y1, .string y2]] w fun r w' => r = .returned (.tuple #[.agg #[.string n, .string d], .int .i64 e]) ∧ Below w.heap.size w w'
def CmpC (f : FuncId) (x1 x2 y1 y2 : ByteArray) (k : Int) : Prop := ∀ w, Calls Tryz.prog f #[.agg #[.string x1, .string x2], .agg #[.string y1, .string y2]] w fun r w' => r = .returned (.int .i64 k) ∧ Below w.heap.size w w'
def RoundC (f : FuncId) (x1 x2 : ByteArray) (p : Int) (n d : ByteArray) (e : Int) : Prop := ∀ w, Calls Tryz.prog f #[.agg #[.string x1, .string x2], .int .i64 p] w fun r w' => r = .returned (.tuple #[.agg #[.string n, .string d], .int .i64 e]) ∧ Below w.heap.size w w'
def StrC (f : FuncId) (x y n d : ByteArray) (e : Int) : Prop := ∀ w, Calls Tryz.prog f #[.string x, .string y] w fun r w' => r = .returned (.tuple #[.agg #[.string n, .string d], .int .i64 e]) ∧ Below w.heap.size w w'
def ValC (f : FuncId) (x1 x2 : ByteArray) (v : Bool) : Prop := ∀ w, Calls Tryz.prog f #[.agg #[.string x1, .string x2]] w fun r w' => r = .returned (.bool v) ∧ Below w.heap.size w w'
structure PairF (x1 x2 y1 y2 a0 b0 a1 b1 a2 b2 a3 b3 : ByteArray) (e0 e1 e2 e3 k : Int) : Prop where
  four : ∀ w, Calls Tryz.prog 10 #[.agg #[.string x1, .string x2], .agg #[.string y1, .string y2]] w fun e w' => e = .returned (.tuple #[.agg #[.string a0, .string b0, .string a1, .string b1, .string a2, .string b2, .string a3, .string b3], .agg #[.int .i64 e0, .int .i64 e1, .int .i64 e2, .int .i64 e3]]) ∧ Below w.heap.size w w'
  ra : OpD 11 x1 x2 y1 y2 a0 b0 e0
  rs : OpD 12 x1 x2 y1 y2 a1 b1 e1
  rm : OpD 13 x1 x2 y1 y2 a2 b2 e2
  rd : OpD 14 x1 x2 y1 y2 a3 b3 e3
  cc : CmpC 15 x1 x2 y1 y2 k
  rc : CmpC 16 x1 x2 y1 y2 k
theorem pair_facts (x1 x2 y1 y2 : ByteArray) (h1 : Sized x1) (h2 : Sized x2) (h3 : Sized y1) (h4 : Sized y2) : ∃ a0 b0 a1 b1 a2 b2 a3 b3 e0 e1 e2 e3 k, PairF x1 x2 y1 y2 a0 b0 a1 b1 a2 b2 a3 b3 e0 e1 e2 e3 k := by
  obtain ⟨A, hA⟩ : ∃ A, A = addQ (readQ x1 x2) (readQ y1 y2) := ⟨_, rfl⟩
  obtain ⟨S, hS⟩ : ∃ S, S = subQ (readQ x1 x2) (readQ y1 y2) := ⟨_, rfl⟩
  obtain ⟨M, hM⟩ : ∃ M, M = mulQ (readQ x1 x2) (readQ y1 y2) := ⟨_, rfl⟩
  obtain ⟨D, hD⟩ : ∃ D, D = divQ (readQ x1 x2) (readQ y1 y2) := ⟨_, rfl⟩
  obtain ⟨k, hk⟩ : ∃ k, k = cmpO (readQ x1 x2) (readQ y1 y2) := ⟨_, rfl⟩
  have c1 := fun w => add_q x1 x2 y1 y2 h1 h2 h3 h4 w
  have c2 := fun w => sub_q x1 x2 y1 y2 h1 h2 h3 h4 w
  have c3 := fun w => mul_q x1 x2 y1 y2 h1 h2 h3 h4 w
  have c4 := fun w => div_q x1 x2 y1 y2 h1 h2 h3 h4 w
  have r1 := fun w => radd_q x1 x2 y1 y2 h1 h2 h3 h4 w
  have r2 := fun w => rsub_q x1 x2 y1 y2 h1 h2 h3 h4 w
  have r3 := fun w => rmul_q x1 x2 y1 y2 h1 h2 h3 h4 w
  have r4 := fun w => rdiv_q x1 x2 y1 y2 h1 h2 h3 h4 w
  have k1 := fun w => compare_q x1 x2 y1 y2 h1 h2 h3 h4 w
  have k2 := fun w => rcompare_q x1 x2 y1 y2 h1 h2 h3 h4 w
  rw [← hA] at c1 r1
  rw [← hS] at c2 r2
  rw [← hM] at c3 r3
  rw [← hD] at c4 r4
  rw [← hk] at k1 k2
  exact ⟨numB A, denB A, numB S, denB S, numB M, denB M, numB D, denB D, errQ A, errQ S, errQ M, errQ D, k, four_raw _ _ _ _ _ _ _ _ _ _ _ _ _ _ _ _ c1 c2 c3 c4, r1, r2, r3, r4, k1, k2⟩
structure RoundF (x1 x2 : ByteArray) (p : Int) (n d u v : ByteArray) (e f : Int) : Prop where
  dn : RoundC 18 x1 x2 p n d e
  rn : RoundC 19 x1 x2 p n d e
  up : RoundC 20 x1 x2 p u v f
  ru : RoundC 21 x1 x2 p u v f
theorem round_facts (x1 x2 : ByteArray) (p : Int) (h1 : Sized x1) (h2 : Sized x2) : ∃ n d u v e f, RoundF x1 x2 p n d u v e f :=
  ⟨_, _, _, _, _, _, fun w => down_q x1 x2 h1 h2 p w, fun w => rdown_q x1 x2 h1 h2 p w, fun w => up_q x1 x2 h1 h2 p w, fun w => rup_q x1 x2 h1 h2 p w⟩
structure MakeF (x1 x2 y : ByteArray) (n d : ByteArray) (e : Int) (v : Bool) : Prop where
  cm : StrC 22 x1 y n d e
  rk : StrC 23 x1 y n d e
  va : ValC 24 x1 x2 v
  rv : ValC 25 x1 x2 v
theorem make_facts (x1 x2 y : ByteArray) (h1 : Sized x1) (h2 : Sized x2) (hy : Sized y) : ∃ n d e v, MakeF x1 x2 y n d e v :=
  ⟨_, _, _, _, fun w => make_q x1 y h1 hy w, fun w => rmake_q x1 y h1 hy w, fun w => valid_q x1 x2 h1 h2 w, fun w => rvalid_q x1 x2 h1 h2 w⟩
/-- The boxes of one pair: the two fractions, both tables of results, both of errors. -/
structure PairAt4 (p q : Nat) (x1 x2 y1 y2 : ByteArray) (rs es ts fs : Array Value) (w : World) : Prop where
  a0 : w.cell? ⟨p, 0, none⟩ = some (.string x1)
  a1 : w.cell? ⟨p, 1, none⟩ = some (.string x2)
  b0 : w.cell? ⟨p + 1, 0, none⟩ = some (.string y1)
  b1 : w.cell? ⟨p + 1, 1, none⟩ = some (.string y2)
  r : w.heap[q]? = some (.cells rs 31 (0, 0))
  e : w.heap[q + 1]? = some (.cells es 33 (0, 0))
  t : w.heap[q + 1 + 1]? = some (.cells ts 31 (0, 0))
  f : w.heap[q + 1 + 1 + 1]? = some (.cells fs 33 (0, 0))
  lt : p + 1 < q
theorem PairAt4.via {p q : Nat} {x1 x2 y1 y2 : ByteArray} {rs es ts fs : Array Value} {w w' : World} (h : PairAt4 p q x1 x2 y1 y2 rs es ts fs w) (hB : Below w.heap.size w w') : PairAt4 p q x1 x2 y1 y2 rs es ts fs w' :=
  ⟨keptBelow hB h.a0, keptBelow hB h.a1, keptBelow hB h.b0, keptBelow hB h.b1, heap_below hB h.r, heap_below hB h.e, heap_below hB h.t, heap_below hB h.f, h.lt⟩
theorem PairAt4.setT {p q : Nat} {x1 x2 y1 y2 : ByteArray} {rs es ts fs : Array Value} {w : World} (h : PairAt4 p q x1 x2 y1 y2 rs es ts fs w) (i : Nat) (v : Value) : PairAt4 p q x1 x2 y1 y2 rs es (ts.setIfInBounds i v) fs (w.setCell ⟨q + 1 + 1, i, none⟩ v) := by
  have lt := h.lt
  exact ⟨cellOther h.a0 (by omega), cellOther h.a1 (by omega), cellOther h.b0 (by omega), cellOther h.b1 (by omega), (heap_setCell_other _ _ _ _ (by show q ≠ q + 1 + 1; omega)).trans h.r, (heap_setCell_other _ _ _ _ (by show q + 1 ≠ q + 1 + 1; omega)).trans h.e, heap_setCell_same _ _ _ _ _ _ h.t, (heap_setCell_other _ _ _ _ (by show q + 1 + 1 + 1 ≠ q + 1 + 1; omega)).trans h.f, lt⟩
theorem PairAt4.setF {p q : Nat} {x1 x2 y1 y2 : ByteArray} {rs es ts fs : Array Value} {w : World} (h : PairAt4 p q x1 x2 y1 y2 rs es ts fs w) (i : Nat) (v : Value) : PairAt4 p q x1 x2 y1 y2 rs es ts (fs.setIfInBounds i v) (w.setCell ⟨q + 1 + 1 + 1, i, none⟩ v) := by
  have lt := h.lt
  exact ⟨cellOther h.a0 (by omega), cellOther h.a1 (by omega), cellOther h.b0 (by omega), cellOther h.b1 (by omega), (heap_setCell_other _ _ _ _ (by show q ≠ q + 1 + 1 + 1; omega)).trans h.r, (heap_setCell_other _ _ _ _ (by show q + 1 ≠ q + 1 + 1 + 1; omega)).trans h.e, (heap_setCell_other _ _ _ _ (by show q + 1 + 1 ≠ q + 1 + 1 + 1; omega)).trans h.t, heap_setCell_same _ _ _ _ _ _ h.f, lt⟩
theorem PairAt4.set3 {p q : Nat} {x1 x2 y1 y2 : ByteArray} {rs es ts fs : Array Value} {w : World} (h : PairAt4 p q x1 x2 y1 y2 rs es ts fs w) (i j k : Nat) (u v z : Value) : PairAt4 p q x1 x2 y1 y2 rs es ((ts.setIfInBounds i u).setIfInBounds j v) (fs.setIfInBounds k z) (((w.setCell ⟨q + 1 + 1, i, none⟩ u).setCell ⟨q + 1 + 1, j, none⟩ v).setCell ⟨q + 1 + 1 + 1, k, none⟩ z) := ((h.setT i u).setT j v).setF k z
theorem below_set3q {B q : Nat} {a w : World} (h : Below B a w) (hp : B ≤ q) (i j k : Nat) (u v z : Value) : Below B a (((w.setCell ⟨q + 1 + 1, i, none⟩ u).setCell ⟨q + 1 + 1, j, none⟩ v).setCell ⟨q + 1 + 1 + 1, k, none⟩ z) :=
  ((h.setCell (p := ⟨q + 1 + 1, i, none⟩) (by show B ≤ q + 1 + 1; omega) u).setCell (p := ⟨q + 1 + 1, j, none⟩) (by show B ≤ q + 1 + 1; omega) v).setCell (p := ⟨q + 1 + 1 + 1, k, none⟩) (by show B ≤ q + 1 + 1 + 1; omega) z
theorem m3Keep {v w w1 : World} {p i j : Nat} {x y : Value} (h : w.cell? ⟨p, i, none⟩ = some x ∧ w.cell? ⟨p, j, none⟩ = some y ∧ Below v.heap.size v w) (hB : Below w.heap.size w w1) : w1.cell? ⟨p, i, none⟩ = some x ∧ w1.cell? ⟨p, j, none⟩ = some y ∧ Below v.heap.size v w1 := ⟨keptBelow hB h.1, keptBelow hB h.2.1, belowVia hB h.2.2⟩
theorem m7Keep {v w w1 : World} {a b c i j : Nat} {x1 x2 x3 x4 x5 x6 : Value} (h : w.cell? ⟨a, i, none⟩ = some x1 ∧ w.cell? ⟨a, j, none⟩ = some x2 ∧ w.cell? ⟨b, 0, none⟩ = some x3 ∧ w.cell? ⟨b, 1, none⟩ = some x4 ∧ w.cell? ⟨c, 0, none⟩ = some x5 ∧ w.cell? ⟨c, 1, none⟩ = some x6 ∧ Below v.heap.size v w) (hB : Below w.heap.size w w1) :
    w1.cell? ⟨a, i, none⟩ = some x1 ∧ w1.cell? ⟨a, j, none⟩ = some x2 ∧ w1.cell? ⟨b, 0, none⟩ = some x3 ∧ w1.cell? ⟨b, 1, none⟩ = some x4 ∧ w1.cell? ⟨c, 0, none⟩ = some x5 ∧ w1.cell? ⟨c, 1, none⟩ = some x6 ∧ Below v.heap.size v w1 := by
  obtain ⟨h1, h2, h3, h4, h5, h6, h9⟩ := h
  exact ⟨keptBelow hB h1, keptBelow hB h2, keptBelow hB h3, keptBelow hB h4, keptBelow hB h5, keptBelow hB h6, belowVia hB h9⟩
theorem m3Swap {v w : World} {p i j : Nat} {x y : Value} {o o' : Obj} (h : (w.alloc o).cell? ⟨p, i, none⟩ = some x ∧ (w.alloc o).cell? ⟨p, j, none⟩ = some y ∧ Below v.heap.size v (w.alloc o)) (hp : p < w.heap.size) (hw : v.heap.size ≤ w.heap.size) :
    (w.alloc o').cell? ⟨p, i, none⟩ = some x ∧ (w.alloc o').cell? ⟨p, j, none⟩ = some y ∧ Below v.heap.size v (w.alloc o') := by
  have e1 := (alloc_below w o).block p hp
  have e2 := (alloc_below w o').block p hp
  obtain ⟨h1, h2, h3⟩ := h
  refine ⟨?_, ?_, h3.os, h3.tape, h3.output, by rw [alloc_size]; omega, fun k hk => ?_⟩
  · rw [← h1]; simp only [World.cell?, e1, e2]
  · rw [← h2]; simp only [World.cell?, e1, e2]
  · rw [← h3.block k hk, (alloc_below w o).block k (by omega), (alloc_below w o').block k (by omega)]
theorem m3Store {v w : World} {p q i j : Nat} {x y a b : Value} (h : w.cell? ⟨p, i, none⟩ = some x ∧ w.cell? ⟨p, j, none⟩ = some y ∧ Below v.heap.size v w) (hp : p < q) (hq : v.heap.size ≤ q) :
    ((w.setCell ⟨q, 0, none⟩ a).setCell ⟨q, 1, none⟩ b).cell? ⟨p, i, none⟩ = some x ∧ ((w.setCell ⟨q, 0, none⟩ a).setCell ⟨q, 1, none⟩ b).cell? ⟨p, j, none⟩ = some y ∧ Below v.heap.size v ((w.setCell ⟨q, 0, none⟩ a).setCell ⟨q, 1, none⟩ b) :=
  ⟨cellOther (cellOther h.1 (by omega)) (by omega), cellOther (cellOther h.2.1 (by omega)) (by omega), below_set2 h.2.2 hq _ _⟩
theorem s29K {v w w1 : World} {p q : Nat} {x1 x2 y1 y2 a0 b0 a1 b1 a2 b2 a3 b3 : ByteArray} {r0 r1 r2 r3 : Int} (h : w.cell? ⟨q, 0, none⟩ = some (.string a0) ∧ w.cell? ⟨q, 1, none⟩ = some (.string b0) ∧ w.cell? ⟨q, 2, none⟩ = some (.string a1) ∧ w.cell? ⟨q, 3, none⟩ = some (.string b1) ∧ w.cell? ⟨q, 4, none⟩ = some (.string a2) ∧ w.cell? ⟨q, 5, none⟩ = some (.string b2) ∧ w.cell? ⟨q, 6, none⟩ = some (.string a3) ∧ w.cell? ⟨q, 7, none⟩ = some (.string b3) ∧ w.cell? ⟨q + 1, 0, none⟩ = some (.int .i64 r0) ∧ w.cell? ⟨q + 1, 1, none⟩ = some (.int .i64 r1) ∧ w.cell? ⟨q + 1, 2, none⟩ = some (.int .i64 r2) ∧ w.cell? ⟨q + 1, 3, none⟩ = some (.int .i64 r3) ∧ w.cell? ⟨q + 1 + 1, 0, none⟩ = some (.string a0) ∧ w.cell? ⟨q + 1 + 1, 1, none⟩ = some (.string b0) ∧ w.cell? ⟨q + 1 + 1, 2, none⟩ = some (.string a1) ∧ w.cell? ⟨q + 1 + 1, 3, none⟩ = some (.string b1) ∧ w.cell? ⟨q + 1 + 1, 4, none⟩ = some (.string a2) ∧ w.cell? ⟨q + 1 + 1, 5, none⟩ = some (.string b2) ∧ w.cell? ⟨q + 1 + 1, 6, none⟩ = some (.string a3) ∧ w.cell? ⟨q + 1 + 1, 7, none⟩ = some (.string b3) ∧ w.cell? ⟨q + 1 + 1 + 1, 0, none⟩ = some (.int .i64 r0) ∧ w.cell? ⟨q + 1 + 1 + 1, 1, none⟩ = some (.int .i64 r1) ∧ w.cell? ⟨q + 1 + 1 + 1, 2, none⟩ = some (.int .i64 r2) ∧ w.cell? ⟨q + 1 + 1 + 1, 3, none⟩ = some (.int .i64 r3) ∧ w.cell? ⟨p, 0, none⟩ = some (.string x1) ∧ w.cell? ⟨p, 1, none⟩ = some (.string x2) ∧ w.cell? ⟨p + 1, 0, none⟩ = some (.string y1) ∧ w.cell? ⟨p + 1, 1, none⟩ = some (.string y2) ∧ Below v.heap.size v w) (hB : Below w.heap.size w w1) : w1.cell? ⟨q, 0, none⟩ = some (.string a0) ∧ w1.cell? ⟨q, 1, none⟩ = some (.string b0) ∧ w1.cell? ⟨q, 2, none⟩ = some (.string a1) ∧ w1.cell? ⟨q, 3, none⟩ = some (.string b1) ∧ w1.cell? ⟨q, 4, none⟩ = some (.string a2) ∧ w1.cell? ⟨q, 5, none⟩ = some (.string b2) ∧ w1.cell? ⟨q, 6, none⟩ = some (.string a3) ∧ w1.cell? ⟨q, 7, none⟩ = some (.string b3) ∧ w1.cell? ⟨q + 1, 0, none⟩ = some (.int .i64 r0) ∧ w1.cell? ⟨q + 1, 1, none⟩ = some (.int .i64 r1) ∧ w1.cell? ⟨q + 1, 2, none⟩ = some (.int .i64 r2) ∧ w1.cell? ⟨q + 1, 3, none⟩ = some (.int .i64 r3) ∧ w1.cell? ⟨q + 1 + 1, 0, none⟩ = some (.string a0) ∧ w1.cell? ⟨q + 1 + 1, 1, none⟩ = some (.string b0) ∧ w1.cell? ⟨q + 1 + 1, 2, none⟩ = some (.string a1) ∧ w1.cell? ⟨q + 1 + 1, 3, none⟩ = some (.string b1) ∧ w1.cell? ⟨q + 1 + 1, 4, none⟩ = some (.string a2) ∧ w1.cell? ⟨q + 1 + 1, 5, none⟩ = some (.string b2) ∧ w1.cell? ⟨q + 1 + 1, 6, none⟩ = some (.string a3) ∧ w1.cell? ⟨q + 1 + 1, 7, none⟩ = some (.string b3) ∧ w1.cell? ⟨q + 1 + 1 + 1, 0, none⟩ = some (.int .i64 r0) ∧ w1.cell? ⟨q + 1 + 1 + 1, 1, none⟩ = some (.int .i64 r1) ∧ w1.cell? ⟨q + 1 + 1 + 1, 2, none⟩ = some (.int .i64 r2) ∧ w1.cell? ⟨q + 1 + 1 + 1, 3, none⟩ = some (.int .i64 r3) ∧ w1.cell? ⟨p, 0, none⟩ = some (.string x1) ∧ w1.cell? ⟨p, 1, none⟩ = some (.string x2) ∧ w1.cell? ⟨p + 1, 0, none⟩ = some (.string y1) ∧ w1.cell? ⟨p + 1, 1, none⟩ = some (.string y2) ∧ Below v.heap.size v w1 := by
  obtain ⟨h0, h1, h2, h3, h4, h5, h6, h7, h8, h9, h10, h11, h12, h13, h14, h15, h16, h17, h18, h19, h20, h21, h22, h23, h24, h25, h26, h27, h⟩ := h
  exact ⟨keptBelow hB h0, keptBelow hB h1, keptBelow hB h2, keptBelow hB h3, keptBelow hB h4, keptBelow hB h5, keptBelow hB h6, keptBelow hB h7, keptBelow hB h8, keptBelow hB h9, keptBelow hB h10, keptBelow hB h11, keptBelow hB h12, keptBelow hB h13, keptBelow hB h14, keptBelow hB h15, keptBelow hB h16, keptBelow hB h17, keptBelow hB h18, keptBelow hB h19, keptBelow hB h20, keptBelow hB h21, keptBelow hB h22, keptBelow hB h23, keptBelow hB h24, keptBelow hB h25, keptBelow hB h26, keptBelow hB h27, belowVia hB h⟩
theorem s29A {w : World} {p q : Nat} {x1 x2 y1 y2 a0 b0 a1 b1 a2 b2 a3 b3 : ByteArray} {r0 r1 r2 r3 : Int} (h : PairAt4 p q x1 x2 y1 y2 [.string a0, .string b0, .string a1, .string b1, .string a2, .string b2, .string a3, .string b3].toArray [.int .i64 r0, .int .i64 r1, .int .i64 r2, .int .i64 r3].toArray [.string a0, .string b0, .string a1, .string b1, .string a2, .string b2, .string a3, .string b3].toArray [.int .i64 r0, .int .i64 r1, .int .i64 r2, .int .i64 r3].toArray w) : w.cell? ⟨q, 0, none⟩ = some (.string a0) ∧ w.cell? ⟨q, 1, none⟩ = some (.string b0) ∧ w.cell? ⟨q, 2, none⟩ = some (.string a1) ∧ w.cell? ⟨q, 3, none⟩ = some (.string b1) ∧ w.cell? ⟨q, 4, none⟩ = some (.string a2) ∧ w.cell? ⟨q, 5, none⟩ = some (.string b2) ∧ w.cell? ⟨q, 6, none⟩ = some (.string a3) ∧ w.cell? ⟨q, 7, none⟩ = some (.string b3) ∧ w.cell? ⟨q + 1, 0, none⟩ = some (.int .i64 r0) ∧ w.cell? ⟨q + 1, 1, none⟩ = some (.int .i64 r1) ∧ w.cell? ⟨q + 1, 2, none⟩ = some (.int .i64 r2) ∧ w.cell? ⟨q + 1, 3, none⟩ = some (.int .i64 r3) ∧ w.cell? ⟨q + 1 + 1, 0, none⟩ = some (.string a0) ∧ w.cell? ⟨q + 1 + 1, 1, none⟩ = some (.string b0) ∧ w.cell? ⟨q + 1 + 1, 2, none⟩ = some (.string a1) ∧ w.cell? ⟨q + 1 + 1, 3, none⟩ = some (.string b1) ∧ w.cell? ⟨q + 1 + 1, 4, none⟩ = some (.string a2) ∧ w.cell? ⟨q + 1 + 1, 5, none⟩ = some (.string b2) ∧ w.cell? ⟨q + 1 + 1, 6, none⟩ = some (.string a3) ∧ w.cell? ⟨q + 1 + 1, 7, none⟩ = some (.string b3) ∧ w.cell? ⟨q + 1 + 1 + 1, 0, none⟩ = some (.int .i64 r0) ∧ w.cell? ⟨q + 1 + 1 + 1, 1, none⟩ = some (.int .i64 r1) ∧ w.cell? ⟨q + 1 + 1 + 1, 2, none⟩ = some (.int .i64 r2) ∧ w.cell? ⟨q + 1 + 1 + 1, 3, none⟩ = some (.int .i64 r3) ∧ w.cell? ⟨p, 0, none⟩ = some (.string x1) ∧ w.cell? ⟨p, 1, none⟩ = some (.string x2) ∧ w.cell? ⟨p + 1, 0, none⟩ = some (.string y1) ∧ w.cell? ⟨p + 1, 1, none⟩ = some (.string y2) ∧ Below w.heap.size w w :=
  ⟨(cell_of_row w _ 0 _ _ _ h.r).trans rfl, (cell_of_row w _ 1 _ _ _ h.r).trans rfl, (cell_of_row w _ 2 _ _ _ h.r).trans rfl, (cell_of_row w _ 3 _ _ _ h.r).trans rfl, (cell_of_row w _ 4 _ _ _ h.r).trans rfl, (cell_of_row w _ 5 _ _ _ h.r).trans rfl, (cell_of_row w _ 6 _ _ _ h.r).trans rfl, (cell_of_row w _ 7 _ _ _ h.r).trans rfl, (cell_of_row w _ 0 _ _ _ h.e).trans rfl, (cell_of_row w _ 1 _ _ _ h.e).trans rfl, (cell_of_row w _ 2 _ _ _ h.e).trans rfl, (cell_of_row w _ 3 _ _ _ h.e).trans rfl, (cell_of_row w _ 0 _ _ _ h.t).trans rfl, (cell_of_row w _ 1 _ _ _ h.t).trans rfl, (cell_of_row w _ 2 _ _ _ h.t).trans rfl, (cell_of_row w _ 3 _ _ _ h.t).trans rfl, (cell_of_row w _ 4 _ _ _ h.t).trans rfl, (cell_of_row w _ 5 _ _ _ h.t).trans rfl, (cell_of_row w _ 6 _ _ _ h.t).trans rfl, (cell_of_row w _ 7 _ _ _ h.t).trans rfl, (cell_of_row w _ 0 _ _ _ h.f).trans rfl, (cell_of_row w _ 1 _ _ _ h.f).trans rfl, (cell_of_row w _ 2 _ _ _ h.f).trans rfl, (cell_of_row w _ 3 _ _ _ h.f).trans rfl, h.a0, h.a1, h.b0, h.b1, Below.refl _ _⟩
theorem part_ratio (xs : Array Value) (off : Nat) (w : World) : (part 23 xs off).run Tryz.prog w = .ok (.agg (xs.extract off (off + 2))) w := by
  have hi : (Tryz.prog.info? 23).map (·.size) = some 2 := by kernel_rfl
  cases hq : Tryz.prog.info? 23 with
  | none => simp [hq] at hi
  | some i =>
    have hs : i.size = 2 := by simpa [hq] using hi
    have hagg : (isAgg 23).run Tryz.prog w = .ok true w := by
      unfold isAgg
      rw [Sem.run_bind, run_underlying Tryz.underlying23 w]
      rfl
    simp [part, Sem.run_bind, hagg, sizeOf, typeInfo, hq, hs]
theorem part_errno {xs : Array Value} {off : Nat} {v : Value} (hx : xs[off]? = some v) (w : World) : (part 32 xs off).run Tryz.prog w = .ok v w :=
  run_part_plain w (by kernel_rfl) hx
theorem items_true {d c : Nat} {e : TypeId} {xs : Array Value} (w : World) : ∀ is : List Nat, (∀ i ∈ is, ∃ a, (part e xs (i * c)).run Tryz.prog w = .ok a w ∧ (Op.equalIn d e a a).run Tryz.prog w = .ok true w) → (Op.eqItems d e c xs xs is).run Tryz.prog w = .ok true w
  | [], _ => by simp [Op.eqItems]
  | i :: is, h => by
    obtain ⟨a, h1, h2⟩ := h i (by simp)
    have ih := items_true w is (fun j hj => h j (by simp [hj]))
    simp [Op.eqItems, Sem.run_bind, h1, h2, ih]
set_option maxRecDepth 100000 in
theorem eq_ratio (d : Nat) (a b : ByteArray) (w : World) : (Op.equalIn (d + 2) 23 (.agg #[.string a, .string b]) (.agg #[.string a, .string b])).run Tryz.prog w = .ok true w := by
  rw [run_equalIn_agg w (d + 1) 23 _ _ (by kernel_rfl) (by kernel_rfl)]
  have hf : (Tryz.prog.fieldsOf 23).toList.map (fun f => (f.name != "_", f.type, f.offset)) = [(true, 9, 0), (true, 9, 1)] := by kernel_rfl
  obtain ⟨fs, hfs⟩ : ∃ fs, fs = (Tryz.prog.fieldsOf 23).toList := ⟨_, rfl⟩
  rw [← hfs] at hf ⊢
  clear hfs
  match fs, hf with
  | [f, g], hf =>
    simp only [List.map_cons, List.map_nil, List.cons.injEq, Prod.mk.injEq, and_true] at hf
    obtain ⟨⟨n1, t1, o1⟩, n2, t2, o2⟩ := hf
    have n1 : f.name ≠ "_" := by simpa using n1
    have n2 : g.name ≠ "_" := by simpa using n2
    have p1 := run_part_plain (P := Tryz.prog) w (e := 9) (by kernel_rfl) (xs := #[.string a, .string b]) (off := 0) (v := .string a) rfl
    have p2 := run_part_plain (P := Tryz.prog) w (e := 9) (by kernel_rfl) (xs := #[.string a, .string b]) (off := 1) (v := .string b) rfl
    have q1 := run_equalIn_string (P := Tryz.prog) w d 9 a a Tryz.underlying9
    have q2 := run_equalIn_string (P := Tryz.prog) w d 9 b b Tryz.underlying9
    simp [Op.eqFields, Sem.run_bind, n1, n2, t1, t2, o1, o2, p1, p2, q1, q2]
  | [], hf => simp at hf
  | [_], hf => simp at hf
  | _ :: _ :: _ :: _, hf => simp at hf
theorem equal_rows (a0 b0 a1 b1 a2 b2 a3 b3 : ByteArray) (w : World) : (Op.equalIn 10000 31 (.agg #[.string a0, .string b0, .string a1, .string b1, .string a2, .string b2, .string a3, .string b3]) (.agg #[.string a0, .string b0, .string a1, .string b1, .string a2, .string b2, .string a3, .string b3])).run Tryz.prog w = .ok true w := by
  cases hq : Tryz.prog.info? 23 with
  | none =>
    have hi : (Tryz.prog.info? 23).map (·.size) = some 2 := by kernel_rfl
    simp [hq] at hi
  | some i =>
    rw [show (10000 : Nat) = 9999 + 1 from rfl, run_equalIn_array w 9999 _ _ Tryz.underlying31 hq]
    have hc : Tryz.prog.cellsOf 23 = 2 := by kernel_rfl
    rw [hc]
    refine items_true w _ (fun j hj => ?_)
    have hj : j < 4 := by simpa using hj
    refine ⟨_, part_ratio _ _ w, ?_⟩
    rcases (by omega : j = 0 ∨ j = 1 ∨ j = 2 ∨ j = 3) with rfl | rfl | rfl | rfl
    · exact eq_ratio 9997 a0 b0 w
    · exact eq_ratio 9997 a1 b1 w
    · exact eq_ratio 9997 a2 b2 w
    · exact eq_ratio 9997 a3 b3 w
theorem equal_errs (r0 r1 r2 r3 : Int) (w : World) : (Op.equalIn 10000 33 (.agg #[.int .i64 r0, .int .i64 r1, .int .i64 r2, .int .i64 r3]) (.agg #[.int .i64 r0, .int .i64 r1, .int .i64 r2, .int .i64 r3])).run Tryz.prog w = .ok true w := by
  cases hq : Tryz.prog.info? 32 with
  | none =>
    have hi : (Tryz.prog.info? 32).map (·.size) = some 1 := by kernel_rfl
    simp [hq] at hi
  | some i =>
    rw [show (10000 : Nat) = 9999 + 1 from rfl, run_equalIn_array w 9999 _ _ Tryz.underlying33 hq]
    have hc : Tryz.prog.cellsOf 32 = 1 := by kernel_rfl
    rw [hc]
    refine items_true w _ (fun j hj => ?_)
    have hj : j < 4 := by simpa using hj
    have he := fun (r : Int) => run_equalIn_int (P := Tryz.prog) w 9998 32 .i64 .i64 r r Tryz.underlying32
    simp only [beq_self_eq_true] at he
    rcases (by omega : j = 0 ∨ j = 1 ∨ j = 2 ∨ j = 3) with rfl | rfl | rfl | rfl
    · exact ⟨_, part_errno rfl w, he r0⟩
    · exact ⟨_, part_errno rfl w, he r1⟩
    · exact ⟨_, part_errno rfl w, he r2⟩
    · exact ⟨_, part_errno rfl w, he r3⟩
end Go.Proofs.YtelckldddflmmaaGreatDoor
