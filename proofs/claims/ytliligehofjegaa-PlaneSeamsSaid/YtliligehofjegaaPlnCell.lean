/- The contracts of Cell and Move. -/
import Derived.Test.YtliligehofjegaaPlnInside
namespace Go.Proofs.Ytliligehofjegaa
open Go.RowKit Go.Shelf Pln

set_option maxHeartbeats 1000000 in
theorem twice_w (p : Pt) (hp : On p) (w : World) :
    Calls Try.prog 61 #[pv p] w fun e w' => e = .returned (pv (2 * p.1, 2 * p.2)) ∧ Below w.heap.size w w' := by
  obtain ⟨p1, p2⟩ := p
  obtain ⟨h1, h2, h3, h4⟩ := hp
  dsimp only at h1 h2 h3 h4
  unfold pv
  dsimp only
  go_enter Try.func61, Try.ntmps61
  go_wp2
  refine bodyPost_ret (v := .agg #[.int .i64 (2 * p1), .int .i64 (2 * p2)]) (by simp [results, Try.results61, go_sem]) rfl ⟨rfl, ?_⟩
  exact ((Below.refl _ _).alloc (Nat.le_refl _) _).alloc (by simp) _
theorem dbl_ok {l : List Pt} (v : Val l) : PtsOk (dbl l) := fun r hr => by
  unfold dbl at hr
  obtain ⟨q, hq, rfl⟩ := List.mem_map.1 hr
  obtain ⟨i, hi, rfl⟩ := mem_vx hq
  have o := v.on i hi
  have := o.x0; have := o.x1; have := o.y0; have := o.y1
  exact ⟨⟨by dsimp only; omega, by dsimp only; omega⟩, by dsimp only; omega, by dsimp only; omega⟩
theorem dbl_smls {l : List Pt} (v : Val l) : Smls (dbl l) := fun i hi => by
  rw [dbl_len] at hi
  rw [dbl_vx]
  have o := v.on i hi
  have := o.x0; have := o.x1; have := o.y0; have := o.y1
  exact ⟨by dsimp only; omega, by dsimp only; omega, by dsimp only; omega, by dsimp only; omega⟩
set_option maxHeartbeats 1000000 in
theorem cell_w (l : List Pt) (hl : Len l) (x y : Int) (hx : I64 x) (hy : I64 y) (v : Value) (w : World) (hv : PtsAt w v l) :
    Calls Try.prog 26 #[v, .int .i64 x, .int .i64 y] w fun e w' => e = .returned (.int .i64 (cellP l x y)) ∧ Below w.heap.size w w' := by
  have HW := Lib.hid (valid_w l hl v w hv)
  rcases hb : valB l with _ | _
  · have HR : Hid (cellP l x y = -1) := Lib.hid (by unfold cellP; rw [hb]; simp)
    rw [hb] at HW
    clear hb hv
    go_enter Try.func26, Try.ntmps26
    go_wp2_with (go_at_call 18; (with_reducible refine HW.out.mono ?_); rintro e u3 ⟨rfl, hB3⟩)
    go_ret
    exact ⟨ret_int HR.out.symm, hB3⟩
  · have vl := (valB_iff l).1 hb
    have HO := Lib.hid (fun w1 => onMap_w [(x, y)] (by simp) _ (w1.alloc (.cells #[.int .i64 x, .int .i64 y] 26)) (one_at (p := (x, y)) ⟨hx, hy⟩ w1.heap.size (cell_rowN w1 _ _ 0 rfl) (cell_rowN w1 _ _ 1 rfl)))
    have HC := Lib.hid (fun w1 (hB : Below w.heap.size w w1) => changed_w l (by have := vl.hi; omega) (fun p => (2 * p.1, 2 * p.2)) 61 #[] (enters_of Try.func61 (by kernel_rfl) rfl) v w1 (hv.via hB)
      (fun k hk w2 _ => twice_w _ (vl.on k hk) w2) (dbl_ok vl))
    have HR : Hid (cellP l x y = if onB (x, y) = true then posP (dbl l) (2 * x + 1, 2 * y + 1) else -1) := Lib.hid (by unfold cellP; rw [hb]; simp)
    have HP := Lib.hid (fun (h : On (x, y)) r w1 (hr : PtsAt w1 r (dbl l)) => position_w (dbl l) (2 * x + 1, 2 * y + 1) r w1 hr (by rw [dbl_len]; have := vl.hi; omega) (dbl_smls vl)
      ⟨by have := h.x0; dsimp only at *; omega, by have := h.x1; dsimp only at *; omega, by have := h.y0; dsimp only at *; omega, by have := h.y1; dsimp only at *; omega⟩)
    rw [hb] at HW
    clear hb hv vl
    have e1 : ([(x, y)] : List Pt).length = 1 := rfl
    rw [e1, onsB_one] at HO
    clear e1
    go_enter Try.func26, Try.ntmps26
    go_wp2_with fail
    refine HW.out.mono ?_
    rintro e u3 ⟨rfl, hB3⟩
    go_wp2_with fail
    refine (HO.out _).mono ?_
    rintro e u4 ⟨rfl, hB4⟩
    have hB5 := belowStep hB3 (belowStep (alloc_below u3 _) hB4)
    clear hB4 hB3
    rcases ho : onB (x, y) with _ | _
    · rw [if_neg (by rw [ho]; simp)] at HR
      clear ho
      go_wp2_with fail
      go_ret
      exact ⟨ret_int HR.out.symm, hB5⟩
    · rw [if_pos ho] at HR
      have o := (onB_iff _).1 ho
      have HP2 := Lib.hid (HP.out o)
      obtain ⟨o1, o2, o3, o4⟩ := o
      dsimp only at o1 o2 o3 o4
      unfold pv at HP2
      dsimp only at HP2
      have HB5 := Lib.hid hB5
      clear ho hB5
      go_wp2_with fail
      refine (HC.out _ HB5.out).mono ?_
      rintro e u5 ⟨r, rfl, hr, hB6⟩
      have HRR := Lib.hid (hr : PtsAt u5 r (dbl l))
      clear hr
      go_wp2_with fail
      refine (HP2.out _ _ HRR.out).mono ?_
      rintro e u6 ⟨rfl, hB7⟩
      go_wp2_with fail
      go_ret
      exact ⟨ret_int HR.out.symm, belowStep (belowStep HB5.out hB6) hB7⟩
end Go.Proofs.Ytliligehofjegaa
