/- The contract of Move. -/
import Derived.Test.YtliligehofjegaaPlnCell
namespace Go.Proofs.Ytliligehofjegaa
open Go.RowKit Go.Shelf Pln

theorem wrap_cases {x : Int} (h1 : -9223372036854775808 ≤ x) (h2 : x ≤ 9223372036854775900) : (x ≤ 9223372036854775807 ∧ wrap64 x = x) ∨ (9223372036854775807 < x ∧ wrap64 x < 0) := by
  unfold wrap64
  omega
theorem wrap_i64 (x : Int) : I64 (wrap64 x) := by unfold wrap64 I64; omega
/-- A place moved, as the machine adds. -/
def mvd (dx dy : Int) (p : Pt) : Pt := (wrap64 (p.1 + dx), wrap64 (p.2 + dy))
theorem mvd_on {p : Pt} {dx dy : Int} (hp : On p) (hx : I64 dx) (hy : I64 dy) : onB (mvd dx dy p) = onB (p.1 + dx, p.2 + dy) ∧ (onB (mvd dx dy p) = true → mvd dx dy p = (p.1 + dx, p.2 + dy)) := by
  have h1 := hp.x0; have h2 := hp.x1; have h3 := hp.y0; have h4 := hp.y1
  obtain ⟨x1, x2⟩ := hx
  obtain ⟨y1, y2⟩ := hy
  have a := wrap_cases (x := p.1 + dx) (by omega) (by omega)
  have b := wrap_cases (x := p.2 + dy) (by omega) (by omega)
  have key : On (mvd dx dy p) ↔ On (p.1 + dx, p.2 + dy) := by
    unfold mvd
    constructor
    · intro h
      have := h.x0; have := h.x1; have := h.y0; have := h.y1
      dsimp only at *
      exact ⟨by dsimp only; omega, by dsimp only; omega, by dsimp only; omega, by dsimp only; omega⟩
    · intro h
      have := h.x0; have := h.x1; have := h.y0; have := h.y1
      dsimp only at *
      exact ⟨by dsimp only; omega, by dsimp only; omega, by dsimp only; omega, by dsimp only; omega⟩
  refine ⟨?_, fun h => ?_⟩
  · rw [Bool.eq_iff_iff, onB_iff, onB_iff]; exact key
  · have h := key.1 ((onB_iff _).1 h)
    have := h.x0; have := h.x1; have := h.y0; have := h.y1
    dsimp only at *
    unfold mvd
    exact Prod.ext (by dsimp only; omega) (by dsimp only; omega)
theorem mvd_all {l : List Pt} {dx dy : Int} (v : Val l) (hx : I64 dx) (hy : I64 dy) : onsB (l.map (mvd dx dy)) (l.map (mvd dx dy)).length = (shf l dx dy).all onB ∧ (onsB (l.map (mvd dx dy)) (l.map (mvd dx dy)).length = true → l.map (mvd dx dy) = shf l dx dy) := by
  have h1 : ∀ p ∈ l, On p := fun p hp => by obtain ⟨i, hi, rfl⟩ := mem_vx hp; exact v.on i hi
  have e1 : onsB (l.map (mvd dx dy)) (l.map (mvd dx dy)).length = (l.map (mvd dx dy)).all onB := by
    rw [Bool.eq_iff_iff, onsB_iff, List.all_eq_true]
    constructor
    · intro h p hp
      obtain ⟨i, hi, rfl⟩ := mem_vx hp
      exact (onB_iff _).2 (h i hi)
    · intro h i hi
      exact (onB_iff _).1 (h _ (vx_mem hi))
  rw [e1]
  have e2 : (l.map (mvd dx dy)).all onB = (shf l dx dy).all onB := by
    unfold shf
    rw [List.all_map, List.all_map, Bool.eq_iff_iff, List.all_eq_true, List.all_eq_true]
    constructor
    · intro h p hp
      have := h p hp
      have e := (mvd_on (h1 p hp) hx hy).1
      rw [Function.comp_apply] at this ⊢
      rw [← e]; exact this
    · intro h p hp
      have := h p hp
      have e := (mvd_on (h1 p hp) hx hy).1
      rw [Function.comp_apply] at this ⊢
      rw [e]; exact this
  refine ⟨e2, fun h => ?_⟩
  unfold shf
  apply List.map_congr_left
  intro p hp
  rw [List.all_eq_true] at h
  exact (mvd_on (h1 p hp) hx hy).2 (h _ (List.mem_map_of_mem hp))
set_option maxHeartbeats 1000000 in
theorem moved_w (p : Pt) (dx dy : Int) (B1 B2 : Nat) (w : World) (h1 : w.cell? ⟨B1, 0, none⟩ = some (.int .i64 dx)) (h2 : w.cell? ⟨B2, 0, none⟩ = some (.int .i64 dy)) :
    Calls Try.prog 62 #[pv p, .pointer (some ⟨B1, 0, none⟩), .pointer (some ⟨B2, 0, none⟩)] w fun e w' => e = .returned (pv (mvd dx dy p)) ∧ Below w.heap.size w w' := by
  obtain ⟨p1, p2⟩ := p
  unfold pv mvd
  dsimp only
  have hB := ((Below.refl _ w).alloc (Nat.le_refl _) (.cells #[.int .i64 p1, .int .i64 p2] 26)).alloc (by simp) (.cells #[.int .i64 0, .int .i64 0] 26)
  have k1 := keptBelow hB h1
  have k2 := keptBelow hB h2
  go_enter Try.func62, Try.ntmps62
  go_wp2
  refine bodyPost_ret (v := .agg #[.int .i64 (wrap64 (p1 + dx)), .int .i64 (wrap64 (p2 + dy))]) (by simp [results, Try.results62, go_sem]) rfl ⟨rfl, ?_⟩
  exact ((Below.refl _ _).alloc (Nat.le_refl _) _).alloc (by simp) _
/-- What Move returns. -/
def MoveR (o : Option (List Pt)) (w : World) (e : Ending) (w' : World) : Prop :=
  (∃ l r, o = some l ∧ e = .returned (.tuple #[r, .int .i64 0]) ∧ PtsAt w' r l ∧ Below w.heap.size w w') ∨
  (o = none ∧ e = .returned (.tuple #[.slice none 0 0, .int .i64 70]) ∧ Below w.heap.size w w')
set_option maxHeartbeats 1000000 in
theorem move_w (l : List Pt) (hl : Len l) (dx dy : Int) (hx : I64 dx) (hy : I64 dy) (v : Value) (w : World) (hv : PtsAt w v l) :
    Calls Try.prog 29 #[v, .int .i64 dx, .int .i64 dy] w (MoveR (moveP l dx dy) w) := by
  have HW := Lib.hid (fun w1 (hB : Below w.heap.size w w1) => valid_w l hl v w1 (hv.via hB))
  have hb0 := ((Below.refl _ w).alloc (Nat.le_refl _) (.cells #[.int .i64 dx] 3)).alloc (by simp) (.cells #[.int .i64 dy] 3)
  have k1 : ((w.alloc (.cells #[.int .i64 dx] 3)).alloc (.cells #[.int .i64 dy] 3)).cell? ⟨w.heap.size, 0, none⟩ = some (.int .i64 dx) := cellA _ (cell_rowN w _ _ 0 rfl)
  have k2 : ((w.alloc (.cells #[.int .i64 dx] 3)).alloc (.cells #[.int .i64 dy] 3)).cell? ⟨w.heap.size + 1, 0, none⟩ = some (.int .i64 dy) := by
    have := cell_rowN (w.alloc (.cells #[.int .i64 dx] 3)) #[.int .i64 dy] 3 0 rfl
    rwa [World.size_alloc] at this
  have K1 := Lib.hid k1
  have K2 := Lib.hid k2
  have HB0 := Lib.hid hb0
  clear k1 k2 hb0
  rcases hb : valB l with _ | _
  · have HR : Hid (moveP l dx dy = none) := Lib.hid (by unfold moveP; rw [hb]; rfl)
    rw [hb] at HW
    clear hb hv
    go_enter Try.func29, Try.ntmps29
    go_wp2_with (go_at_call 18; (with_reducible refine (HW.out _ HB0.out).mono ?_); rintro e u3 ⟨rfl, hB3⟩)
    go_ret2
    exact .inr ⟨HR.out, rfl, belowStep HB0.out hB3⟩
  · have vl := (valB_iff l).1 hb
    have hall := mvd_all vl hx hy
    have HR : Hid (moveP l dx dy = if (shf l dx dy).all onB = true then some (shf l dx dy) else none) := Lib.hid (by unfold moveP; rw [if_pos hb])
    have HC := Lib.hid (fun w1 (hB : Below w.heap.size w w1) (h1 : w1.cell? ⟨w.heap.size, 0, none⟩ = some (.int .i64 dx)) (h2 : w1.cell? ⟨w.heap.size + 1, 0, none⟩ = some (.int .i64 dy)) => changed_w l (by have := vl.hi; omega) (mvd dx dy) 62 #[.pointer (some ⟨w.heap.size, 0, none⟩), .pointer (some ⟨w.heap.size + 1, 0, none⟩)] (enters_of Try.func62 (by kernel_rfl) rfl) v w1 (hv.via hB)
      (fun k hk w2 hB2 => moved_w _ dx dy _ _ w2 (keptBelow hB2 h1) (keptBelow hB2 h2)) (fun r hr => by obtain ⟨q, _, rfl⟩ := List.mem_map.1 hr; exact ⟨wrap_i64 _, wrap_i64 _⟩))
    have HM := Lib.hid (fun r w1 (hr : PtsAt w1 r (l.map (mvd dx dy))) => onMap_w (l.map (mvd dx dy)) (by rw [List.length_map]; exact hl) r w1 hr)
    have HA := Lib.hid hall
    rw [hb] at HW
    clear hb hv vl hall
    go_enter Try.func29, Try.ntmps29
    go_wp2_with fail
    refine (HW.out _ HB0.out).mono ?_
    rintro e u3 ⟨rfl, hB3⟩
    have K1' := Lib.hid (keptBelow hB3 K1.out)
    have K2' := Lib.hid (keptBelow hB3 K2.out)
    have hB3 := belowStep HB0.out hB3
    go_wp2_with fail
    refine (HC.out _ hB3 K1'.out K2'.out).mono ?_
    rintro e u4 ⟨r, rfl, hr, hB4⟩
    have HRR := Lib.hid hr
    have hB4 := belowStep hB3 hB4
    clear hr
    go_wp2_with fail
    refine (HM.out _ _ HRR.out).mono ?_
    rintro e u5 ⟨rfl, hB5⟩
    have HR5 := Lib.hid (HRR.out.via hB5)
    have hB5 := belowStep hB4 hB5
    clear hB3 hB4
    rcases ho : onsB (l.map (mvd dx dy)) (l.map (mvd dx dy)).length with _ | _
    · have HR6 : Hid (moveP l dx dy = none) := Lib.hid (by rw [HR.out, if_neg (by rw [← HA.out.1, ho]; simp)])
      clear ho
      go_wp2_with fail
      go_ret2
      exact .inr ⟨HR6.out, rfl, hB5⟩
    · have HR6 : Hid (moveP l dx dy = some (l.map (mvd dx dy))) := Lib.hid (by rw [HR.out, if_pos (by rw [← HA.out.1, ho]), HA.out.2 ho])
      clear ho
      go_wp2_with fail
      go_ret2
      exact .inl ⟨_, _, HR6.out, rfl, HR5.out, hB5⟩
end Go.Proofs.Ytliligehofjegaa
