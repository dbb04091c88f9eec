/- The contract of Valid. -/
import Derived.Test.YtliligehofjegaaPlnMap
import Derived.Test.YtliligehofjegaaPlnSep
namespace Go.Proofs.Ytliligehofjegaa
open Go.RowKit Go.Shelf Pln
attribute [local go_sem] Oper.semAt_some

structure ValI (w : World) (B2 : Nat) (v : Value) (y : Bool) (A : World) : Prop where
  own : A.cell? ⟨w.heap.size, 0, none⟩ = some v
  flag : Boxed A (w.heap.size + 1) 4 (.bool y)
  held : A.cell? ⟨B2, 0, none⟩ = some v
  below : Below w.heap.size w A
theorem ValI.held_ {w : World} {B2 : Nat} {v : Value} {l : List Pt} {y : Bool} {A : World} (h : ValI w B2 v y A) (hv : PtsAt w v l) : Held B2 v l A := ⟨h.held, hv.via h.below⟩
theorem ValI.via {w : World} {n B2 : Nat} {v : Value} {y : Bool} {A A' : World} (h : ValI w B2 v y A) (hB : Below n A A') (hs : w.heap.size + 1 < n) (h2 : B2 < n) : ValI w B2 v y A' :=
  ⟨kept_n hB (by omega) h.own, (hB.block _ (by omega)).trans h.flag, kept_n hB h2 h.held, h.below.trans (below_of_le hB (by omega))⟩
theorem ValI.set {w : World} {B2 : Nat} {v : Value} {y : Bool} {A : World} (h : ValI w B2 v y A) (h2 : w.heap.size + 1 < B2) (y' : Bool) : ValI w B2 v y' (A.setCell ⟨w.heap.size + 1, 0, none⟩ (.bool y')) :=
  ⟨(cell_set_ne (by omega)).trans h.own, h.flag.set _, (cell_set_ne (by omega)).trans h.held, h.below.setCell (p := ⟨w.heap.size + 1, 0, none⟩) (by simp) _⟩

theorem cell_second (w : World) (x : Obj) (b : Value) (t : TypeId) : ((w.alloc x).alloc (.cells #[b] t)).cell? ⟨w.heap.size + 1, 0, none⟩ = some b := by
  have := cell_rowN (w.alloc x) #[b] t 0 rfl
  rwa [World.size_alloc] at this
theorem val_end0 {w W : World} {y : Bool} {tm : Array Value} (hf : W.cell? ⟨w.heap.size + 1, 0, none⟩ = some (.bool y)) (hB : Below w.heap.size w W) {r : Bool} (hr : r = y)
    (h2 : tm[2]?.getD undef = .pointer (some ⟨w.heap.size + 1, 0, none⟩) := by rfl) :
    bodyPostM Fence.wide 5 Try.prog Try.f18 (fun e w' => e = .returned (.bool r) ∧ Below w.heap.size w w') .ret { tmps := tm, defers := [] } W := by
  refine ⟨.bool y, ?_, by rw [hr], hB⟩
  simp [results, Try.results18, go_sem, h2, hf]
theorem val_end {w W : World} {D : Nat} {y : Bool} {tm : Array Value} (hD : w.heap.size + 1 < D) (hf : W.cell? ⟨w.heap.size + 1, 0, none⟩ = some (.bool y)) (hB : Below w.heap.size w W) (hK : W.heap[D]? = some (.deferred (some []))) {r : Bool} (hr : r = y)
    (h2 : tm[2]?.getD undef = .pointer (some ⟨w.heap.size + 1, 0, none⟩) := by rfl) :
    bodyPostM Fence.wide 5 Try.prog Try.f18 (fun e w' => e = .returned (.bool r) ∧ Below w.heap.size w w') .ret { tmps := tm, defers := [{ target := .collected D, args := #[] }] } W := by
  have hDl : D < W.heap.size := (Array.getElem?_eq_some_iff.1 hK).1
  refine ⟨by simp, .inl ⟨_, _, rfl, run_takeDeferred hK, ?_⟩⟩
  have c1 : (W.putObj D (.deferred none)).cell? ⟨w.heap.size + 1, 0, none⟩ = some (.bool y) := (World.cell?_of_block (World.putObj_heap_other (by simp; omega))).trans hf
  refine ⟨.bool y, ?_, by rw [hr], hB.trans (belowK_b (w := w) (Nat.le_refl _) W D _ _ (by omega) hK rfl rfl)⟩
  simp [results, Try.results18, go_sem, h2, c1]
set_option maxRecDepth 100000 in
set_option maxHeartbeats 4000000 in
theorem valid_in (l : List Pt) (hl : (l.length : Int) ≤ 4611686018427387904) (v : Value) (w : World) (hv : PtsAt w v l) :
    CallsIn Fence.wide 5 Try.prog 18 #[v] w fun e w' => e = .returned (.bool (valB l)) ∧ Below w.heap.size w w' := by
  have hM := fun w1 (hB : Below w.heap.size w w1) => onMap_w l hl v w1 (hv.via hB)
  have HV := Lib.hid hv
  obtain ⟨⟨a, c, rfl, _, _, _⟩, _⟩ := hv
  have hv1 : valB l = (decide (3 ≤ l.length) && decide (l.length ≤ 8) && onsB l l.length && rowsB l l.length) := rfl
  obtain ⟨m, hm⟩ : ∃ m, m = l.length := ⟨_, rfl⟩
  have HM := Lib.hid hm
  have hmb : (m : Int) ≤ 4611686018427387904 := by omega
  rw [← hm] at HV hM hv1 ⊢
  have HMP := Lib.hid hM
  have HV1 := Lib.hid hv1
  clear hm hl hM hv1
  refine callsIn_of_wp_marks Try.func18 rfl trivial ?_ rfl
  simp only [Try.ntmps18, List.size_toArray, List.length_cons, List.length_nil, Nat.reduceAdd, Nat.reduceSub, Array.replicate_succ, Array.replicate_zero, List.push_toArray, List.append_toArray, List.nil_append, List.cons_append]
  have hBA : ∀ x y, Below w.heap.size w ((w.alloc x).alloc y) := fun x y => ((Below.refl _ w).alloc (Nat.le_refl _) _).alloc (by simp) _
  have HBA := Lib.hid hBA
  clear hBA
  by_cases h3 : (m : Int) < 3
  · have HR : Hid (valB l = false) := by rw [HV1.out, decide_eq_false (by omega : ¬ 3 ≤ m)]; exact Lib.hid rfl
    gi_wp2
    refine ⟨trivial, ?_⟩
    gi_wp2
    exact val_end0 (cell_second _ _ _ _) (HBA.out _ _) HR.out
  · have h3' : 3 ≤ (m : Int) := by omega
    clear h3
    by_cases h8 : 8 < (m : Int)
    · have HR : Hid (valB l = false) := by rw [HV1.out, decide_eq_false (by omega : ¬ m ≤ 8), Bool.and_false]; exact Lib.hid rfl
      gi_wp2
      refine ⟨trivial, ?_⟩
      gi_wp2
      exact val_end0 (cell_second _ _ _ _) (HBA.out _ _) HR.out
    · have h8' : (m : Int) ≤ 8 := by omega
      clear h8
      have d1 : decide ((m : Int) < 3) = false := decide_eq_false (by omega)
      have d2 : decide (8 < (m : Int)) = false := decide_eq_false (by omega)
      gi_wp2_with fail
      refine ⟨trivial, ?_⟩
      refine (callsIn_wide.2 (HMP.out _ (HBA.out _ _))).mono ?_
      rintro e w1 ⟨rfl, hB1⟩
      have k0 : w1.cell? ⟨w.heap.size, 0, none⟩ = some (.slice a m c) := keptBelow hB1 (cellA _ (cell_rowN w _ _ 0 rfl))
      have k1 : Boxed w1 (w.heap.size + 1) 4 (.bool false) := by
        have := Boxed.new (w.alloc (.cells #[.slice a m c] 23)) 4 (.bool false)
        rw [World.size_alloc] at this
        exact heap_below hB1 this
      have hB := belowVia hB1 (HBA.out (.cells #[.slice a m c] 23) (.cells #[.bool false] 4))
      have hlt : w.heap.size + 1 < w1.heap.size := (Array.getElem?_eq_some_iff.1 k1).1
      clear hB1
      rcases hon : onsB l m with _ | _
      · have HR : Hid (valB l = false) := by rw [HV1.out, hon, Bool.and_false]; exact Lib.hid rfl
        have k2 := k1.frozen
        have k3 := k1.cell
        clear hon
        gi_wp2
        exact val_end0 (k1.set _).cell (hB.setCell (p := ⟨w.heap.size + 1, 0, none⟩) (by simp) _) HR.out
      · have HON := Lib.hid hon
        clear hon
        gi_wp2_with fail
        refine ⟨trivial, ?_⟩
        refine (callsIn_wide.2 (edges_w _ _ _ _)).mono ?_
        rintro e w2 ⟨rfl, rfl⟩
        gi_wp2_with fail
        have hs : Smls l := fun i hi => on_sml ((onsB_iff l m).1 HON.out i (by rw [HM.out]; exact hi))
        obtain ⟨w0, hw0⟩ : ∃ w0 : World, w0 = w1.alloc (.cells #[.slice a m c] 23) := ⟨_, rfl⟩
        have hsz : w0.heap.size = w1.heap.size + 1 := by rw [hw0, World.size_alloc]
        have hI0 : ValI w w1.heap.size (.slice a m c) false w0 := by
          rw [hw0]
          exact ⟨cellA _ k0, k1.alloc _, cell_rowN _ _ _ 0 rfl, hB.alloc (by omega) _⟩
        rw [← hw0]
        have HI0 := Lib.hid hI0
        obtain ⟨B2, hB2⟩ : ∃ B2, B2 = w1.heap.size := ⟨_, rfl⟩
        rw [← hB2] at HI0 hsz hlt ⊢
        clear hw0 hI0 hB k0 k1 hB2 HMP HBA
        clear w1
        refine wpIn_rangeFunc_yields rfl (by omega) (gf := 70) (lb := #[.pointer (some ⟨B2, 0, none⟩)]) rfl trivial (enters_of Try.func70 (by kernel_rfl) rfl)
          (edges1_yields 4 B2 (.slice a m c) l (by have := HM.out; omega)) (fun _ => rfl)
          (fun k A => ValI w B2 (.slice a m c) false A ∧ rowsB l k = true) (fun c' k A => c' = .ret ∧ ValI w B2 (.slice a m c) false A ∧ rowB l k m = false)
          (fun k A A' h hB => ⟨h.1.via hB (by omega) (by omega), h.2⟩) (fun _ _ A A' h hB => ⟨h.1, h.2.1.via hB (by omega) (by omega), h.2.2⟩) (fun k A h => h.1.held_ HV.out) ⟨HI0.out, rfl⟩
          (fun k a' A => ∃ Be, Be ≠ w0.heap.size + 1 ∧ B2 < Be ∧ A.heap[Be]? = some (.cells #[.int .i64 (vx l k).1, .int .i64 (vx l k).2, .int .i64 (nx l k).1, .int .i64 (nx l k).2] 71 (0, 0)) ∧ a' = { tmps := #[.slice a m c, .pointer (some ⟨w.heap.size, 0, none⟩), .pointer (some ⟨w.heap.size + 1, 0, none⟩), .int .i64 k, .pointer (some ⟨Be, 0, none⟩), undef, undef, undef, undef, .slice a m c, .int .i64 m, .bool false, .bool false, .slice a m c, .int .i64 m, .bool false, .bool false, .bool false, .slice a m c, .bool true, .bool false, .bool false, .slice a m c, .func (.func 70) #[] #[.pointer (some ⟨B2, 0, none⟩)], .int .i64 k, ev (vx l k) (nx l k), undef, undef, undef, undef, undef, undef, undef, undef, undef, undef, undef, undef, undef, undef, undef, undef, undef, undef, undef, undef, undef, undef, undef, undef, undef, undef, undef, undef, undef], defers := [] })
          (fun k a' A A' ⟨Be, h1, h2, h3, h4⟩ hk => ⟨Be, h1, h2, (hk Be h1).trans h3, h4⟩) ?assign ?body ?done ?stop
        case assign =>
          rintro L k W hk hlt2 hI
          have HI := Lib.hid hI
          clear hI
          have HE : Hid (encE l k = #[.int .i64 k, ev (vx l k) (nx l k)]) := Lib.hid rfl
          rw [HE.out]
          unfold ev
          gi_wp2
          have hb2 : Below W.heap.size W (W.alloc (.cells #[.int .i64 (vx l k).1, .int .i64 (vx l k).2, .int .i64 (nx l k).1, .int .i64 (nx l k).2] 71)) := alloc_below _ _
          exact ⟨Above.of_below hb2, ⟨HI.out.1.via hb2 (by omega) (by omega), HI.out.2⟩, W.heap.size, by omega, by omega, heap_alloc_new _ _, rfl⟩
        case body =>
          rintro L k a' W hk hlt2 hI ⟨Be, hne, hlt3, hE, rfl⟩
          have hE2 := EdgeIn.of_heap hE
          have hF := fun w => leftOf_w (vx l k) (nx l k) w
          have hjl := mod_lt' hk
          have hL := fun (B : Nat) (q : Nat) (hq : q < l.length) (w : World) (h : EdgeIn w B (vx l k) (nx l k)) => left1_w (vx l k) (nx l k) (vx l q) B (hs k hk) (hs _ hjl) (hs q hq) w h
          have HJ2 : Hid (((k : Int) + 1) % m = (((k + 1) % l.length : Nat) : Int)) := by rw [HM.out]; push_cast; exact Lib.hid rfl
          have HRB : Hid (∀ q, rowB l k (q + 1) = (rowB l k q && (q == k || q == (k + 1) % l.length || decide (0 < turn (vx l k) (nx l k) (vx l q))))) := Lib.hid (fun q => by unfold rowB; rw [List.range_succ, List.all_append]; simp)
          have HPS : Hid (∀ q, q < m → rowB l k (q + 1) = false → rowB l k m = false) := Lib.hid (fun q hq h => by
            rcases e : rowB l k m with _ | _
            · rfl
            · have h1 := (rowB_iff l k m).1 e
              rw [(rowB_iff l k (q + 1)).2 fun j hj => h1 j (by omega)] at h; exact Bool.noConfusion h)
          have HRS : Hid (rowB l k m = true → rowsB l (k + 1) = true) := Lib.hid (fun h => by
            rw [rowsB_iff]
            intro i hi
            by_cases e : i = k
            · rw [e, ← HM.out]; exact h
            · exact (rowsB_iff l k).1 hI.2 i (by omega))
          have hjm : (k + 1) % l.length < m := by rw [HM.out]; exact hjl
          obtain ⟨j, hj⟩ : ∃ j, j = (k + 1) % l.length := ⟨_, rfl⟩
          rw [← hj] at HJ2 HRB hjm
          have hkm : k < m := by rw [HM.out]; exact hk
          have k0 : W.drew.cell? ⟨w.heap.size, 0, none⟩ = some (.slice a m c) := hI.1.own
          have e0 : W.drew.cell? ⟨Be, 0, none⟩ = some (.int .i64 (vx l k).1) := hE2.c0
          have e1 : W.drew.cell? ⟨Be, 1, none⟩ = some (.int .i64 (vx l k).2) := hE2.c1
          have e2 : W.drew.cell? ⟨Be, 2, none⟩ = some (.int .i64 (nx l k).1) := hE2.c2
          have e3 : W.drew.cell? ⟨Be, 3, none⟩ = some (.int .i64 (nx l k).2) := hE2.c3
          have HF := Lib.hid hF
          have HL := Lib.hid hL
          have HI := Lib.hid hI
          have HK := Lib.hid hk
          clear hF hjl hL hI hE2 hE HI0 hj hk
          have hk1 : IntKind.i64.wrap ((k : Int) + 1) = (k : Int) + 1 := IntWalk.i64_in _ (by omega)
          have hmo : ((k : Int) + 1).tmod m = j := by rw [Int.tmod_eq_emod_of_nonneg (by omega)]; exact HJ2.out
          have hm0 : ¬ m = 0 := by omega
          unfold ev at HF ⊢
          gi_wp2
          have hB : Below W.heap.size W W.drew := (Below.refl _ _).drew
          refine wpIn_region_T (fun w' => Below W.drew.heap.size W.drew w') 8 (by kernel_rfl) ?_
          generalize W.drew = wd at *
          refine wpT_tk 0 26 (v := ?_) (Below.refl _ _) rfl rfl (by rfl) (hy := fun w hw => ?_) (h := ?_)
          rotate_left
          · have e0 := keptBelow hw e0; have e1 := keptBelow hw e1; have e2 := keptBelow hw e2; have e3 := keptBelow hw e3; go_simp; with_reducible rfl
          try simp only [Act.put, List.setIfInBounds_toArray, List.set_cons_zero, List.set_cons_succ]
          refine wpT_tk 2 28 (v := ?_) (Below.refl _ _) rfl rfl (by rfl) (hy := fun w hw => ?_) (h := ?_)
          rotate_left
          · go_simp; with_reducible rfl
          try simp only [Act.put, List.setIfInBounds_toArray, List.set_cons_zero, List.set_cons_succ]
          refine wpT_tk 3 29 (v := ?_) (Below.refl _ _) rfl rfl (by rfl) (hy := fun w hw => ?_) (h := ?_)
          rotate_left
          · go_simp; with_reducible rfl
          try simp only [Act.put, List.setIfInBounds_toArray, List.set_cons_zero, List.set_cons_succ]
          refine wpT_tk 4 30 (v := ?_) (Below.refl _ _) rfl rfl (by rfl) (hy := fun w hw => ?_) (h := ?_)
          rotate_left
          · have k0 := keptBelow hw k0; go_simp; with_reducible rfl
          try simp only [Act.put, List.setIfInBounds_toArray, List.set_cons_zero, List.set_cons_succ]
          refine wpT_tk 5 31 (v := ?_) (Below.refl _ _) rfl rfl (by rfl) (hy := fun w hw => ?_) (h := ?_)
          rotate_left
          · go_simp; with_reducible rfl
          try simp only [Act.put, List.setIfInBounds_toArray, List.set_cons_zero, List.set_cons_succ]
          refine wpT_tk 6 32 (v := ?_) (Below.refl _ _) rfl rfl (by rfl) (hy := fun w hw => ?_) (h := ?_)
          rotate_left
          · go_simp; with_reducible rfl
          try simp only [Act.put, List.setIfInBounds_toArray, List.set_cons_zero, List.set_cons_succ]
          refine wpT_one 1 rfl rfl (by kernel_rfl) ?_
          go_simp
          refine ⟨trivial, ?_⟩
          refine ((callsIn_wide.2 (HF.out _)).inRound L).mono ?_
          rintro e w3 ⟨rfl, h3⟩
          have hE3 : EdgeIn w3 wd.heap.size (vx l k) (nx l k) := by rw [h3]; exact EdgeIn.new _ _ _
          have hB3 : Below wd.heap.size wd w3 := by rw [h3]; exact alloc_below _ _
          refine ⟨hB3, ?_⟩
          clear h3 e0 e1 e2 e3 hk1 hmo hm0 k0
          refine wpT_tk 7 5 (v := ?_) hB3 rfl rfl (by rfl) (hy := fun w hw => ?_) (h := ?_)
          rotate_left
          · go_simp; with_reducible rfl
          try simp only [Act.put, List.setIfInBounds_toArray, List.set_cons_zero, List.set_cons_succ]
          refine wpT_one 8 rfl rfl (by kernel_rfl) ?_
          go_simp
          refine wpT_done (by kernel_rfl) ?_ _
          have hBW := belowVia hB3 hB
          have hI3 := HI.out.1.via hBW (by omega) (by omega)
          have k0 := hI3.own
          have HE3 := Lib.hid hE3
          have HI3 := Lib.hid hI3
          obtain ⟨Bl, hBl⟩ : ∃ Bl, Bl = wd.heap.size := ⟨_, rfl⟩
          rw [← hBl] at HE3 ⊢
          have HBW := Lib.hid hBW
          clear hB hB3 hBW hE3 hI3 hBl
          gi_wp2
          clear k0
          gi_loopw [35] (fun i wr => ∃ q : Nat, q ≤ m ∧ i = .int .i64 q ∧ rowB l k q = true ∧ Below w3.heap.size w3 wr) (fun i _ => m - (intOf i).toNat)
          case atStart => exact ⟨0, by omega, rfl, rfl, Below.refl _ _⟩
          case round =>
            obtain ⟨q, hq, rfl, hrow, hBr⟩ := hrel
            have HROW := Lib.hid hrow
            clear hrow
            have hBWr := belowVia hBr HBW.out
            by_cases hltq : q < m
            · have hltq' : (q : Int) < m := by omega
              have hql : q < l.length := by rw [← HM.out]; exact hltq
              have hI4 := HI3.out.via hBr (by have := HBW.out.size; omega) (by have := HBW.out.size; omega)
              have hv2 := HV.out.via hI4.below
              obtain ⟨⟨a', c', he, _, _, hin⟩, _⟩ := hv2
              rw [← HM.out] at he
              cases he
              obtain ⟨g', o, rfl, c0, c1⟩ := hin.get hql
              have hE4 := (HE3.out.via hBr).via (alloc_below wr (.cells #[.int .i64 (vx l q).1, .int .i64 (vx l q).2] 26))
              have hB5 := belowVia (alloc_below wr (.cells #[.int .i64 (vx l q).1, .int .i64 (vx l q).2] 26)) hBr
              have hB6 := belowVia hB5 HBW.out
              have HC := Lib.hid (fun w => HL.out Bl q hql w)
              have HS := HRB.out q
              have HPq := Lib.hid (HPS.out q hltq)
              have HI4 := Lib.hid hI4
              have HE4 := Lib.hid hE4
              have HB5 := Lib.hid hB5
              have HB6 := Lib.hid hB6
              rw [HROW.out, Bool.true_and] at HS
              have HSS := Lib.hid HS
              clear hin hE4 hI4 hB5 hB6 HS hql HROW HRB HPS hBWr hBr
              unfold pv at HC
              generalize hlt5 : decide (0 < turn (vx l k) (nx l k) (vx l q)) = tb at *
              clear hlt5
              generalize vx l q = p at *
              obtain ⟨p1, p2⟩ := p
              dsimp only at c0 c1 HC HE4 HB5 HB6
              by_cases hqk : q = k
              · have HR2 : Hid (rowB l k (q + 1) = true) := Lib.hid (by rw [HSS.out]; simp [hqk])
                subst hqk
                clear HSS
                gi_wp2
                refine ⟨(fun f h => by cases h), ?_⟩
                gi_wp2
                go_roundw
                case rel => exact ⟨q + 1, by omega, by go_num, HR2.out, HB5.out⟩
                case measure => simp [intOf]; omega
              · by_cases hqj : q = j
                · have HR2 : Hid (rowB l k (q + 1) = true) := Lib.hid (by rw [HSS.out]; simp [hqj])
                  subst hqj
                  clear HSS
                  gi_wp2
                  refine ⟨(fun f h => by cases h), ?_⟩
                  gi_wp2
                  go_roundw
                  case rel => exact ⟨q + 1, by omega, by go_num, HR2.out, HB5.out⟩
                  case measure => simp [intOf]; omega
                · have HR2 : Hid (rowB l k (q + 1) = tb) := Lib.hid (by rw [HSS.out]; simp [hqk, hqj])
                  have n1 : ((q : Int) != (k : Int)) = true := by simp; omega
                  have n2 : ((q : Int) != (j : Int)) = true := by simp; omega
                  clear HSS hqk hqj
                  gi_wp2_with fail
                  refine ⟨trivial, ?_⟩
                  refine ((callsIn_wide.2 (HC.out _ HE4.out)).inRound L).mono ?_
                  rintro e w5 ⟨rfl, hB7⟩
                  have HB7 := Lib.hid hB7
                  clear hB7 c0 c1
                  cases tb with
                  | true =>
                    gi_wp2
                    go_roundw
                    case rel => exact ⟨q + 1, by omega, by go_num, HR2.out, belowVia HB7.out HB5.out⟩
                    case measure => simp [intOf]; omega
                  | false =>
                    have hI7 := HI4.out.via (belowVia HB7.out (alloc_below wr _)) (by have := (HB6.out).size; simp at this; have := HBW.out.size; omega) (by have := (HB6.out).size; simp at this; have := HBW.out.size; omega)
                    have c2 := hI7.flag.frozen
                    have c3 := hI7.flag.cell
                    have HI7 := Lib.hid hI7
                    clear hI7
                    gi_wp2
                    exact ⟨(Above.of_below (belowVia HB7.out HB6.out)).trans (Above.setCell _ _ _ _ (by omega)), rfl, HI7.out.set hlt _, HPq.out HR2.out⟩
            · obtain rfl : q = m := by omega
              have HR3 := Lib.hid (HRS.out HROW.out)
              have HI4 := Lib.hid (HI3.out.via hBr (by have := HBW.out.size; omega) (by have := HBW.out.size; omega))
              gi_wp2
              exact ⟨Above.of_below hBWr, HI4.out, HR3.out⟩
        case done =>
          rintro D W hD ⟨hI, hF⟩ hK
          have HR : Hid (valB l = true) := by rw [HV1.out, HON.out, show rowsB l m = true by rw [HM.out]; exact hF, decide_eq_true (by omega : 3 ≤ m), decide_eq_true (by omega : m ≤ 8)]; exact Lib.hid rfl
          have c2 := hI.flag.frozen
          have c2' := hI.flag.cell
          have hDl : D < W.heap.size := (Array.getElem?_eq_some_iff.1 hK).1
          have HK := Lib.hid hK
          have HI := Lib.hid hI
          clear hI hK hF HI0
          gi_wp2
          have hK5 : (W.setCell ⟨w.heap.size + 1, 0, none⟩ (.bool true)).heap[D]? = some (.deferred (some [])) := (heap_setCell_other _ _ _ _ (by simp; omega)).trans HK.out
          exact val_end (by omega) (HI.out.set hlt true).flag.cell (HI.out.set hlt true).below hK5 HR.out
        case stop =>
          rintro D c' k W hD hk ⟨rfl, hI, hF⟩ hK
          have HR : Hid (valB l = false) := by
            have : rowsB l m = false := by
              rcases e : rowsB l m with _ | _
              · rfl
              · have h := (rowsB_iff l m).1 e k (by rw [HM.out]; exact hk)
                rw [← HM.out, hF] at h; exact Bool.noConfusion h
            rw [HV1.out, this, Bool.and_false]; exact Lib.hid rfl
          have HK := Lib.hid hK
          have HI := Lib.hid hI
          clear hI hK hF HI0
          gi_wp2
          exact val_end (by omega) HI.out.flag.cell HI.out.below HK.out HR.out
theorem valid_w (l : List Pt) (hl : (l.length : Int) ≤ 4611686018427387904) (v : Value) (w : World) (hv : PtsAt w v l) :
    Calls Try.prog 18 #[v] w fun e w' => e = .returned (.bool (valB l)) ∧ Below w.heap.size w w' :=
  callsIn_wide.1 (valid_in l hl v w hv)
end Go.Proofs.Ytliligehofjegaa
