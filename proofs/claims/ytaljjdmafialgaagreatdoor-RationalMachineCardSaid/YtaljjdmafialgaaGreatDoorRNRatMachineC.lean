/- RationalMachine: what the law answers, whatever the integers. -/
import Derived.Test.YtaljjdmafialgaaGreatDoorRNRatMachine
namespace Go.Proofs.YtaljjdmafialgaaGreatDoor
open Go.RowKit Putlog

theorem Machine_calls (n d m c : Int) (W : World) (hn0 : -9223372036854775808 ≤ n) (hn1 : n ≤ 9223372036854775807) (hd0 : -9223372036854775808 ≤ d) (hd1 : d ≤ 9223372036854775807) (hm0 : -9223372036854775808 ≤ m) (hm1 : m ≤ 9223372036854775807) (hc0 : -9223372036854775808 ≤ c) (hc1 : c ≤ 9223372036854775807) (hT : TabP W) :
    Calls Tryz.prog 5 #[.int .i64 n, .int .i64 d, .int .i64 m, .int .i64 c] W fun e w' => e = .returned (.bool true) ∧ Below W.heap.size W w' := by
  have hp1 := fun w => pick_q n 60001 hn0 hn1 (by decide) (by decide) w
  have hp2 := fun w => pick_q m 60001 hm0 hm1 (by decide) (by decide) w
  have hp3 := fun w => pick_q d 30000 hd0 hd1 (by decide) (by decide) w
  have hp4 := fun w => pick_q c 30000 hc0 hc1 (by decide) (by decide) w
  obtain ⟨p1, p2⟩ := pickN_bounds n (n := 60001) (by decide)
  obtain ⟨p3, p4⟩ := pickN_bounds m (n := 60001) (by decide)
  obtain ⟨p5, p6⟩ := pickN_bounds d (n := 30000) (by decide)
  obtain ⟨p7, p8⟩ := pickN_bounds c (n := 30000) (by decide)
  generalize pickN n 60001 = pn at *
  generalize pickN m 60001 = pm at *
  generalize pickN d 30000 = pd at *
  generalize pickN c 30000 = pc at *
  obtain ⟨N, hN⟩ : ∃ N, N = pn - 30000 := ⟨_, rfl⟩
  obtain ⟨M, hM⟩ : ∃ M, M = pm - 30000 := ⟨_, rfl⟩
  obtain ⟨D, hD⟩ : ∃ D, D = 1 + pd := ⟨_, rfl⟩
  obtain ⟨C, hC⟩ : ∃ C, C = 1 + pc := ⟨_, rfl⟩
  have nN : N.natAbs ≤ 30000 := by omega
  have nM : M.natAbs ≤ 30000 := by omega
  have nD : D.natAbs ≤ 30000 := by omega
  have nC : C.natAbs ≤ 30000 := by omega
  have fa := (mfrac (N := N) (D := D) nN (by omega) (by omega)).fits (by decide) (by decide)
  have fb := (mfrac (N := M) (D := C) nM (by omega) (by omega)).fits (by decide) (by decide)
  have ea : makeQ (some N) (some D) = some (Rat.divInt N D) := makeQ_ok (by omega)
  have eb : makeQ (some M) (some C) = some (Rat.divInt M C) := makeQ_ok (by omega)
  have ho1 := fun w h => of_q N D (by omega) (by omega) (by omega) (by omega) w h
  have ho2 := fun w h => of_q M C (by omega) (by omega) (by omega) (by omega) w h
  rw [ea] at ho1
  rw [eb] at ho2
  obtain ⟨⟨r0, h0⟩, ⟨r1, h1⟩, ⟨r2, h2⟩, h3, h4, h5⟩ := mach_all (N := N) (D := D) (M := M) (C := C) nN nM (by omega) (by omega) (by omega) (by omega)
  have b1 := mulb nN nC
  have b2 := mulb nM nD
  have b3 := mulb nD nC
  have b4 := mulb nN nM
  have b5 := mulb nD nM
  generalize Rat.divInt N D = qa at *
  generalize Rat.divInt M C = qb at *
  have sa := sized_fits fa.1
  have sa2 := sized_fits fa.2
  have sb := sized_fits fb.1
  have sb2 := sized_fits fb.2
  have hadd := fun W => add_q (intB qa.num) (intB qa.den) (intB qb.num) (intB qb.den) sa sa2 sb sb2 W
  have hsub := fun W => sub_q (intB qa.num) (intB qa.den) (intB qb.num) (intB qb.den) sa sa2 sb sb2 W
  have hmul := fun W => mul_q (intB qa.num) (intB qa.den) (intB qb.num) (intB qb.den) sa sa2 sb sb2 W
  have hdiv := fun W => div_q (intB qa.num) (intB qa.den) (intB qb.num) (intB qb.den) sa sa2 sb sb2 W
  have hcmp := fun W => compare_q (intB qa.num) (intB qa.den) (intB qb.num) (intB qb.den) sa sa2 sb sb2 W
  rw [readQ_rat fa, readQ_rat fb] at hadd hsub hmul hdiv hcmp
  obtain ⟨e1, e2, e3, R0⟩ := rnd_of h0 (by omega) (by omega)
  obtain ⟨e4, e5, e6, R1⟩ := rnd_of h1 (by omega) (by omega)
  obtain ⟨e7, e8, e9, R2⟩ := rnd_of h2 (by omega) (by omega)
  unfold GivesQ at hadd hsub hmul hdiv
  rw [e1, e2, e3] at hadd
  rw [e4, e5, e6] at hsub
  rw [e7, e8, e9] at hmul
  have hf := fun w => four_raw (intB qa.num) (intB qa.den) (intB qb.num) (intB qb.den) _ _ _ _ _ _ _ _ _ _ _ _ hadd hsub hmul hdiv w
  have hsg : (N * C < M * D ∧ cmpR qa qb = -1) ∨ (N * C = M * D ∧ cmpR qa qb = 0) ∨ (M * D < N * C ∧ cmpR qa qb = 1) := by
    rw [h5]; exact cmpZ_cases _ _
  have w0 : ∀ x y : Int, y = x → x.natAbs ≤ 1800000000 → IntKind.i64.wrap x = y := fun x y e h => by rw [IntKind.wrap_i64]; omega
  by_cases hM0 : M = 0
  · rw [h4 hM0] at hf
    exact Machine_walk n d m c pn pd pm pc N D M C (N * C) (M * D) (N * C + M * D) (N * C - M * D) (D * C) (N * M) (D * M) (cmpR qa qb) _ _ _ _ _ _ 0 0 _ _ _ 0 40 _ _ _ _ _ _ _ _ _ _ ⟨#[]⟩ ⟨#[]⟩ W hT hp1 hp2 hp3 hp4 (w0 _ _ hN (by omega)) (w0 _ _ hM (by omega)) (w0 _ _ hD (by omega)) (w0 _ _ hC (by omega)) ho1 ho2 hf hcmp
      (w0 _ _ rfl (by omega)) (w0 _ _ rfl (by omega)) (w0 _ _ rfl (by omega)) (w0 _ _ rfl (by omega)) (w0 _ _ rfl (by omega)) (w0 _ _ rfl (by omega)) (w0 _ _ rfl (by omega)) R0 R1 R2 (.inr ⟨hM0, rfl, rfl, rfl⟩) hsg
  · obtain ⟨r3, h6⟩ := h3 hM0
    obtain ⟨f1, f2, f3, R3⟩ := rnd_of h6 (by omega) (by omega)
    rw [f1, f2, f3] at hf
    exact Machine_walk n d m c pn pd pm pc N D M C (N * C) (M * D) (N * C + M * D) (N * C - M * D) (D * C) (N * M) (D * M) (cmpR qa qb) _ _ _ _ _ _ _ _ _ _ _ _ 0 _ _ _ _ _ _ _ _ _ _ _ _ W hT hp1 hp2 hp3 hp4 (w0 _ _ hN (by omega)) (w0 _ _ hM (by omega)) (w0 _ _ hD (by omega)) (w0 _ _ hC (by omega)) ho1 ho2 hf hcmp
      (w0 _ _ rfl (by omega)) (w0 _ _ rfl (by omega)) (w0 _ _ rfl (by omega)) (w0 _ _ rfl (by omega)) (w0 _ _ rfl (by omega)) (w0 _ _ rfl (by omega)) (w0 _ _ rfl (by omega)) R0 R1 R2 (.inl ⟨hM0, rfl, R3⟩) hsg
end Go.Proofs.YtaljjdmafialgaaGreatDoor
