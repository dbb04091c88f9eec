/- The contracts of Moments, Lattice, Inside, Cell. -/
import Derived.Test.YtliligehofjegaaPlnArea
namespace Go.Proofs.Ytliligehofjegaa
open Go.RowKit Go.Shelf Pln

set_option maxHeartbeats 1000000 in
theorem moments_w (l : List Pt) (hl : Len l) (v : Value) (w : World) (hv : PtsAt w v l) :
    Calls Try.prog 24 #[v] w fun e w' => e = .returned (.tuple #[.int .i64 (mxP l), .int .i64 (myP l)]) ∧ Below w.heap.size w w' := by
  have HW := Lib.hid (valid_w l hl v w hv)
  rcases hb : valB l with _ | _
  · have HR : Hid (mxP l = 0) := Lib.hid (by unfold mxP; rw [hb]; rfl)
    have HR2 : Hid (myP l = 0) := Lib.hid (by unfold myP; rw [hb]; rfl)
    rw [hb] at HW
    clear hb hv
    go_enter Try.func24, Try.ntmps24
    go_wp2_with (go_at_call 18; (with_reducible refine HW.out.mono ?_); rintro e u3 ⟨rfl, hB3⟩)
    go_ret2
    exact ⟨ret_ii HR.out.symm HR2.out.symm, hB3⟩
  · have vl := (valB_iff l).1 hb
    have HT := Lib.hid (fun w1 (hB : Below w.heap.size w w1) => total_w l (fun a b => (a.1 + b.1) * crs a b) 57 (enters_of Try.func57 (by kernel_rfl) rfl) v w1 (hv.via hB) (by have := vl.hi; omega)
      (fun k hk w2 => mx_w _ _ (val_smls vl k hk) (val_smls vl _ (mod_lt' hk)) w2) (fun k hk => by have := mx_sum vl k hk; omega))
    have HT2 := Lib.hid (fun w1 (hB : Below w.heap.size w w1) => total_w l (fun a b => (a.2 + b.2) * crs a b) 58 (enters_of Try.func58 (by kernel_rfl) rfl) v w1 (hv.via hB) (by have := vl.hi; omega)
      (fun k hk w2 => my_w _ _ (val_smls vl k hk) (val_smls vl _ (mod_lt' hk)) w2) (fun k hk => by have := my_sum vl k hk; omega))
    have HR : Hid (mxP l = sumE l (fun a b => (a.1 + b.1) * crs a b) l.length) := Lib.hid (by unfold mxP; rw [if_pos hb])
    have HR2 : Hid (myP l = sumE l (fun a b => (a.2 + b.2) * crs a b) l.length) := Lib.hid (by unfold myP; rw [if_pos hb])
    generalize sumE l (fun a b => (a.1 + b.1) * crs a b) l.length = sx at *
    generalize sumE l (fun a b => (a.2 + b.2) * crs a b) l.length = sy at *
    rw [hb] at HW
    clear hb hv vl
    go_enter Try.func24, Try.ntmps24
    go_wp2_with fail
    refine HW.out.mono ?_
    rintro e u3 ⟨rfl, hB3⟩
    go_wp2_with fail
    refine (HT.out _ hB3).mono ?_
    rintro e u4 ⟨rfl, hB4⟩
    have hB4 := belowStep hB3 hB4
    go_wp2_with fail
    refine (HT2.out _ hB4).mono ?_
    rintro e u5 ⟨rfl, hB5⟩
    have hB5 := belowStep hB4 hB5
    go_wp2_with fail
    go_ret2
    exact ⟨ret_ii HR.out.symm HR2.out.symm, hB5⟩
set_option maxHeartbeats 1000000 in
theorem lattice_w (l : List Pt) (hl : Len l) (v : Value) (w : World) (hv : PtsAt w v l) :
    Calls Try.prog 15 #[v] w fun e w' => e = .returned (.tuple #[.int .i64 (innP l), .int .i64 (bndP l)]) ∧ Below w.heap.size w w' := by
  have HW := Lib.hid (valid_w l hl v w hv)
  rcases hb : valB l with _ | _
  · have HR : Hid (innP l = 0) := Lib.hid (by unfold innP; rw [hb]; rfl)
    have HR2 : Hid (bndP l = 0) := Lib.hid (by unfold bndP; rw [hb]; rfl)
    rw [hb] at HW
    clear hb hv
    go_enter Try.func15, Try.ntmps15
    go_wp2_with (go_at_call 18; (with_reducible refine HW.out.mono ?_); rintro e u3 ⟨rfl, hB3⟩)
    go_ret2
    exact ⟨ret_ii HR.out.symm HR2.out.symm, hB3⟩
  · have vl := (valB_iff l).1 hb
    have HT := Lib.hid (fun w1 (hB : Below w.heap.size w w1) => total_w l stp 46 (enters_of Try.func46 (by kernel_rfl) rfl) v w1 (hv.via hB) (by have := vl.hi; omega)
      (fun k hk w2 => steps_w _ _ (val_smls vl k hk) (val_smls vl _ (mod_lt' hk)) w2) (fun k hk => by have := stp_sum vl k hk; omega))
    have HA := Lib.hid (fun w1 (hB : Below w.heap.size w w1) => area_w l hl v w1 (hv.via hB))
    have HR : Hid (innP l = (sumE l crs l.length - sumE l stp l.length + 2).tdiv 2) := Lib.hid (by unfold innP; rw [if_pos hb])
    have HR2 : Hid (bndP l = sumE l stp l.length) := Lib.hid (by unfold bndP; rw [if_pos hb])
    have HR3 : Hid (areaP l = sumE l crs l.length) := Lib.hid (by unfold areaP; rw [if_pos hb])
    rw [HR3.out] at HA
    obtain ⟨a1, a2⟩ := crs_sum vl l.length (Nat.le_refl _)
    obtain ⟨s1, s2⟩ := stp_sum vl l.length (Nat.le_refl _)
    generalize sumE l crs l.length = sa at *
    generalize sumE l stp l.length = ss at *
    rw [hb] at HW
    clear hb hv vl
    go_enter Try.func15, Try.ntmps15
    go_wp2_with fail
    refine HW.out.mono ?_
    rintro e u3 ⟨rfl, hB3⟩
    go_wp2_with fail
    refine (HT.out _ hB3).mono ?_
    rintro e u4 ⟨rfl, hB4⟩
    have hB4 := belowStep hB3 hB4
    go_wp2_with fail
    refine (HA.out _ hB4).mono ?_
    rintro e u5 ⟨rfl, hB5⟩
    have hB5 := belowStep hB4 hB5
    go_wp2_with fail
    go_ret2
    exact ⟨ret_ii HR.out.symm HR2.out.symm, hB5⟩
theorem one_at {w : World} {p : Pt} (hp : I64P p) (B : Nat) (h0 : w.cell? ⟨B, 0, none⟩ = some (.int .i64 p.1)) (h1 : w.cell? ⟨B, 1, none⟩ = some (.int .i64 p.2)) : PtsAt w (.slice (some ⟨B, 0, none⟩) 1 1) [p] := by
  refine ⟨⟨some ⟨B, 0, none⟩, 1, rfl, by simp, by omega, .inr ⟨B, 0, rfl, fun j hj => ?_⟩⟩, fun r hr => ?_⟩
  · obtain rfl : j = 0 := by simpa using hj
    exact ⟨h0, h1⟩
  · obtain rfl : r = p := by simpa using hr
    exact hp
theorem onsB_one (p : Pt) : onsB [p] 1 = onB p := by unfold onsB; simp [List.range_succ]; rfl
set_option maxHeartbeats 1000000 in
theorem inside_w (l : List Pt) (hl : Len l) (p : Pt) (hp : I64P p) (v : Value) (w : World) (hv : PtsAt w v l) :
    Calls Try.prog 16 #[v, pv p] w fun e w' => e = .returned (.int .i64 (insP l p)) ∧ Below w.heap.size w w' := by
  have HW := Lib.hid (fun w1 (hB : Below w.heap.size w w1) => valid_w l hl v w1 (hv.via hB))
  have hb0 := alloc_below w (.cells #[.int .i64 p.1, .int .i64 p.2] 26)
  unfold pv
  rcases hb : valB l with _ | _
  · have HR : Hid (insP l p = -1) := Lib.hid (by unfold insP; rw [hb]; simp)
    rw [hb] at HW
    clear hb hv
    go_enter Try.func16, Try.ntmps16
    go_wp2_with (go_at_call 18; (with_reducible refine (HW.out _ hb0).mono ?_); rintro e u3 ⟨rfl, hB3⟩)
    go_ret
    exact ⟨ret_int HR.out.symm, belowStep hb0 hB3⟩
  · have vl := (valB_iff l).1 hb
    have HO := Lib.hid (fun w1 => onMap_w [p] (by simp) _ (w1.alloc (.cells #[.int .i64 p.1, .int .i64 p.2] 26)) (one_at hp w1.heap.size (cell_rowN w1 _ _ 0 rfl) (cell_rowN w1 _ _ 1 rfl)))
    have HP := Lib.hid (fun (h : onB p = true) w1 (hB : Below w.heap.size w w1) => position_w l p v w1 (hv.via hB) (by have := vl.hi; omega) (val_smls vl) (on_sml ((onB_iff p).1 h)))
    have HR : Hid (insP l p = if onB p = true then posP l p else -1) := Lib.hid (by unfold insP; rw [hb]; simp)
    rw [hb] at HW
    clear hb hv vl
    have e1 : ([p] : List Pt).length = 1 := rfl
    rw [e1, onsB_one] at HO
    clear e1
    go_enter Try.func16, Try.ntmps16
    go_wp2_with fail
    refine (HW.out _ hb0).mono ?_
    rintro e u3 ⟨rfl, hB3⟩
    have c0 := keptBelow hB3 (cell_rowN w _ 26 0 rfl)
    have c1 := keptBelow hB3 (cell_rowN w _ 26 1 rfl)
    have hB3 := belowStep hb0 hB3
    go_wp2_with fail
    refine (HO.out _).mono ?_
    rintro e u4 ⟨rfl, hB4⟩
    have hB5 := belowStep (alloc_below u3 _) hB4
    have c0 := keptBelow hB5 c0
    have c1 := keptBelow hB5 c1
    have hB5 := belowStep hB3 hB5
    clear hB4 hB3 hb0
    rcases ho : onB p with _ | _
    · rw [if_neg (by rw [ho]; simp)] at HR
      clear ho
      go_wp2_with fail
      go_ret
      exact ⟨ret_int HR.out.symm, hB5⟩
    · rw [if_pos ho] at HR
      have HP2 := Lib.hid (HP.out ho)
      unfold pv at HP2
      clear ho
      go_wp2_with fail
      refine (HP2.out _ hB5).mono ?_
      rintro e u6 ⟨rfl, hB6⟩
      go_wp2_with fail
      go_ret
      exact ⟨ret_int HR.out.symm, belowStep hB5 hB6⟩
end Go.Proofs.Ytliligehofjegaa
