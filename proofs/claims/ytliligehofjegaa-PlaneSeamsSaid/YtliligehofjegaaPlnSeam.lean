/- The contracts of directed and of what Seam strikes. -/
import Derived.Test.YtliligehofjegaaPlnSide
import Derived.Test.YtliligehofjegaaPlnRun
namespace Go.Proofs.Ytliligehofjegaa
open Go.RowKit Go.Shelf Pln

/-- A seam as a value. -/
def sv (s : Pt × Pt) : Value := .agg #[.int .i64 s.1.1, .int .i64 s.1.2, .int .i64 s.2.1, .int .i64 s.2.2]
/-- What Seam strikes. -/
def offP (a b : List Pt) (c : Pt) : Bool := decide (posP a c < 0) || decide (posP b c < 0)
theorem off_not (a b : List Pt) (c : Pt) : (!offP a b c) = (decide (0 ≤ posP a c) && decide (0 ≤ posP b c)) := by
  unfold offP
  rw [Bool.eq_iff_iff]
  simp
theorem com_off (a b : List Pt) : comP a b = (a ++ b).filter fun c => !offP a b c := by
  unfold comP; congr 1; funext c; exact (off_not a b c).symm
set_option maxHeartbeats 2000000 in
theorem off_w (a b : List Pt) (ha : Val a) (hb : Val b) (c : Pt) (hc : Sml c) (va vb : Value) (B1 B2 : Nat) (w : World) (h1 : w.cell? ⟨B1, 0, none⟩ = some va) (h2 : w.cell? ⟨B2, 0, none⟩ = some vb) (hva : PtsAt w va a) (hvb : PtsAt w vb b) :
    Calls Try.prog 55 #[pv c, .pointer (some ⟨B1, 0, none⟩), .pointer (some ⟨B2, 0, none⟩)] w fun e w' => e = .returned (.bool (offP a b c)) ∧ Below w.heap.size w w' := by
  have HP1 := Lib.hid (fun w1 (hB : Below w.heap.size w w1) => position_w a c va w1 (hva.via hB) (by have := ha.hi; omega) (val_smls ha) hc)
  have HP2 := Lib.hid (fun w1 (hB : Below w.heap.size w w1) => position_w b c vb w1 (hvb.via hB) (by have := hb.hi; omega) (val_smls hb) hc)
  have hO : offP a b c = (decide (posP a c < 0) || decide (posP b c < 0)) := rfl
  unfold pv at HP1 HP2 ⊢
  have hB0 := alloc_below w (.cells #[.int .i64 c.1, .int .i64 c.2] 26)
  have k1 := keptBelow hB0 h1
  have k2 := keptBelow hB0 h2
  have HB0 := Lib.hid hB0
  have HK2 := Lib.hid k2
  have HO := Lib.hid hO
  generalize posP a c = x at *
  generalize posP b c = y at *
  obtain ⟨c1, c2⟩ := c
  dsimp only at HP1 HP2 HB0 HK2 k1
  clear hB0 k2 h1 h2 hva hvb hO
  by_cases hx : x < 0
  · have HR : Hid (offP a b (c1, c2) = true) := Lib.hid (by rw [HO.out, decide_eq_true hx]; rfl)
    go_enter Try.func55, Try.ntmps55
    go_wp2_with fail
    refine (HP1.out _ HB0.out).mono ?_
    rintro e u3 ⟨rfl, hB3⟩
    go_wp2_with fail
    go_ret
    exact ⟨ret_bool HR.out.symm, belowStep HB0.out hB3⟩
  · have hx' : decide (x < 0) = false := decide_eq_false hx
    have HR : Hid (offP a b (c1, c2) = decide (y < 0)) := Lib.hid (by rw [HO.out, hx', Bool.false_or])
    go_enter Try.func55, Try.ntmps55
    go_wp2_with fail
    refine (HP1.out _ HB0.out).mono ?_
    rintro e u3 ⟨rfl, hB3⟩
    have k2 := keptBelow hB3 HK2.out
    have c0 := keptBelow hB3 (cell_rowN w #[.int .i64 c1, .int .i64 c2] 26 0 rfl)
    have c1' := keptBelow hB3 (cell_rowN w #[.int .i64 c1, .int .i64 c2] 26 1 rfl)
    have hB3 := belowStep HB0.out hB3
    go_wp2_with fail
    refine (HP2.out _ hB3).mono ?_
    rintro e u4 ⟨rfl, hB4⟩
    go_wp2_with fail
    go_ret
    exact ⟨ret_bool HR.out.symm, belowStep hB3 hB4⟩
set_option maxHeartbeats 2000000 in
theorem directed_w (s e : Pt) (l : List Pt) (hs : Sml s) (he : Sml e) (hl : l.length ≤ 100) (hm : Smls l) (v : Value) (w : World) (hv : PtsAt w v l) :
    Calls Try.prog 56 #[ev s e, v] w fun en w' => en = .returned (sv (dirP s e l)) ∧ Below w.heap.size w w' := by
  have HF := Lib.hid (fun w => leftOf_w s e w)
  have HC := Lib.hid (fun w1 (hB : Below w.heap.size w w1) B (hE : EdgeIn w1 B s e) => contains_w l (by omega) (fun k => decide (0 < turn s e (vx l k))) 71 #[.pointer (some ⟨B, 0, none⟩)] (enters_of Try.func71 (by kernel_rfl) rfl) v w1 (hv.via hB)
    (fun k hk w2 hB2 => left1_w s e (vx l k) B hs he (hm k hk) w2 (hE.via hB2)))
  rw [any_left] at HC
  have hD : dirP s e l = if (l.any fun c => decide (0 < turn s e c)) = true then (s, e) else (e, s) := by unfold dirP; rfl
  generalize (l.any fun c => decide (0 < turn s e c)) = tb at *
  have HD := Lib.hid hD
  clear hD hv
  unfold ev at HF ⊢
  obtain ⟨s1, s2⟩ := s
  obtain ⟨e1, e2⟩ := e
  dsimp only at HF HC HD ⊢
  have hb0 := ((Below.refl _ w).alloc (Nat.le_refl _) (.cells #[.int .i64 s1, .int .i64 s2, .int .i64 e1, .int .i64 e2] 71)).alloc (by simp) (.cells #[.int .i64 0, .int .i64 0, .int .i64 0, .int .i64 0] 48)
  have HB0 := Lib.hid hb0
  clear hb0
  have cc : ∀ i x, (#[Value.int .i64 s1, .int .i64 s2, .int .i64 e1, .int .i64 e2] : Array Value)[i]? = some x → ((w.alloc (.cells #[.int .i64 s1, .int .i64 s2, .int .i64 e1, .int .i64 e2] 71)).alloc (.cells #[.int .i64 0, .int .i64 0, .int .i64 0, .int .i64 0] 48)).cell? ⟨w.heap.size, i, none⟩ = some x := fun i x h => cellA _ (cell_rowN w _ _ i h)
  have zz : ∀ i x, (#[Value.int .i64 0, .int .i64 0, .int .i64 0, .int .i64 0] : Array Value)[i]? = some x → ((w.alloc (.cells #[.int .i64 s1, .int .i64 s2, .int .i64 e1, .int .i64 e2] 71)).alloc (.cells #[.int .i64 0, .int .i64 0, .int .i64 0, .int .i64 0] 48)).cell? ⟨w.heap.size + 1, i, none⟩ = some x := fun i x h => by
    have := cell_rowN (w.alloc (.cells #[.int .i64 s1, .int .i64 s2, .int .i64 e1, .int .i64 e2] 71)) #[Value.int .i64 0, .int .i64 0, .int .i64 0, .int .i64 0] 48 i h
    rwa [World.size_alloc] at this
  have zf : ∀ i, ((w.alloc (.cells #[.int .i64 s1, .int .i64 s2, .int .i64 e1, .int .i64 e2] 71)).alloc (.cells #[.int .i64 0, .int .i64 0, .int .i64 0, .int .i64 0] 48)).frozen? ⟨w.heap.size + 1, i, none⟩ = false := fun i => by
    have h := heap_alloc_new (w.alloc (.cells #[.int .i64 s1, .int .i64 s2, .int .i64 e1, .int .i64 e2] 71)) (.cells #[.int .i64 0, .int .i64 0, .int .i64 0, .int .i64 0] 48)
    rw [World.size_alloc] at h
    exact frozen_of_row _ _ i _ _ h
  have HCC := Lib.hid cc
  have HZZ := Lib.hid zz
  have HZF := Lib.hid zf
  clear cc zz zf
  go_enter Try.func56, Try.ntmps56
  go_wp2_with fail
  refine (HF.out _).mono ?_
  rintro en w3 ⟨rfl, h3⟩
  have hE := EdgeIn.new ((w.alloc (.cells #[.int .i64 s1, .int .i64 s2, .int .i64 e1, .int .i64 e2] 71)).alloc (.cells #[.int .i64 0, .int .i64 0, .int .i64 0, .int .i64 0] 48)) (s1, s2) (e1, e2)
  rw [← h3, World.size_alloc, World.size_alloc] at hE
  have hb3 := alloc_below ((w.alloc (.cells #[.int .i64 s1, .int .i64 s2, .int .i64 e1, .int .i64 e2] 71)).alloc (.cells #[.int .i64 0, .int .i64 0, .int .i64 0, .int .i64 0] 48)) (.cells #[.int .i64 s1, .int .i64 s2, .int .i64 e1, .int .i64 e2] 71)
  rw [← h3] at hb3
  have HC2 := Lib.hid (HC.out _ (belowStep HB0.out hb3) _ hE)
  have HB3 := Lib.hid hb3
  clear hE hb3 h3
  go_wp2_with fail
  refine HC2.out.mono ?_
  rintro en w5 ⟨rfl, hB5⟩
  have hb5 := belowStep HB3.out hB5
  have q0 := keptBelow hb5 (HCC.out 0 _ rfl)
  have q1 := keptBelow hb5 (HCC.out 1 _ rfl)
  have q2 := keptBelow hb5 (HCC.out 2 _ rfl)
  have q3 := keptBelow hb5 (HCC.out 3 _ rfl)
  have z0 := keptBelow hb5 (HZZ.out 0 _ rfl)
  have z1 := keptBelow hb5 (HZZ.out 1 _ rfl)
  have z2 := keptBelow hb5 (HZZ.out 2 _ rfl)
  have z3 := keptBelow hb5 (HZZ.out 3 _ rfl)
  have f0 := frozenBelow hb5 (HZZ.out 0 _ rfl) (HZF.out 0)
  have f1 := frozenBelow hb5 (HZZ.out 1 _ rfl) (HZF.out 1)
  have f2 := frozenBelow hb5 (HZZ.out 2 _ rfl) (HZF.out 2)
  have f3 := frozenBelow hb5 (HZZ.out 3 _ rfl) (HZF.out 3)
  have HB5 := Lib.hid (belowStep HB0.out hb5)
  clear hB5 hb5
  cases tb with
  | true =>
    go_wp2_with fail
    refine bodyPost_ret (v := .agg #[.int .i64 s1, .int .i64 s2, .int .i64 e1, .int .i64 e2]) (by simp [results, Try.results56, go_sem, z0, z1, z2, z3]) rfl ⟨by rw [HD.out]; rfl, ?_⟩
    exact (((HB5.out.setCell (p := ⟨w.heap.size + 1, 0, none⟩) (by simp) _).setCell (p := ⟨w.heap.size + 1, 1, none⟩) (by simp) _).setCell (p := ⟨w.heap.size + 1, 2, none⟩) (by simp) _).setCell (p := ⟨w.heap.size + 1, 3, none⟩) (by simp) _
  | false =>
    go_wp2_with fail
    refine bodyPost_ret (v := .agg #[.int .i64 e1, .int .i64 e2, .int .i64 s1, .int .i64 s2]) (by simp [results, Try.results56, go_sem, z0, z1, z2, z3]) rfl ⟨by rw [HD.out]; rfl, ?_⟩
    exact (((HB5.out.setCell (p := ⟨w.heap.size + 1, 0, none⟩) (by simp) _).setCell (p := ⟨w.heap.size + 1, 1, none⟩) (by simp) _).setCell (p := ⟨w.heap.size + 1, 2, none⟩) (by simp) _).setCell (p := ⟨w.heap.size + 1, 3, none⟩) (by simp) _
end Go.Proofs.Ytliligehofjegaa
