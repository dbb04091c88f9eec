/- Several texts of layers 3 and 4, one behind the other: RatOrderF, RatCardKit3. -/
import Derived.Test.YtippeffbdjjcfaaGreatDoorRM6
/- RatOrderF: What RationalOrder calls, for the fractions that Long and Small make. -/
namespace Go.Proofs.YtippeffbdjjcfaaGreatDoor
open Go.RowKit Putlog

theorem add_rat {a b r : Rat} (ha : FitsQ a) (hb : FitsQ b) (h : addQ (some a) (some b) = some r) (w : World) : Calls Tryz.prog 34 #[.agg #[.string (intB a.num), .string (intB a.den)], .agg #[.string (intB b.num), .string (intB b.den)]] w fun e w' => e = .returned (.tuple #[.agg #[.string (intB r.num), .string (intB r.den)], .int .i64 0]) ∧ Below w.heap.size w w' := by
  refine (add_q _ _ _ _ (sized_fits ha.1) (sized_fits ha.2) (sized_fits hb.1) (sized_fits hb.2) w).mono ?_
  rw [readQ_rat ha, readQ_rat hb, h]
  exact fun e w' h => h
theorem subO_rat {a b : Rat} (ha : FitsQ a) (hb : FitsQ b) (w : World) : Calls Tryz.prog 36 #[.agg #[.string (intB a.num), .string (intB a.den)], .agg #[.string (intB b.num), .string (intB b.den)]] w fun e w' => e = .returned (.tuple #[.agg #[.string (numB (subQ (some a) (some b))), .string (denB (subQ (some a) (some b)))], .int .i64 (errQ (subQ (some a) (some b)))]) ∧ Below w.heap.size w w' := by
  refine (sub_q _ _ _ _ (sized_fits ha.1) (sized_fits ha.2) (sized_fits hb.1) (sized_fits hb.2) w).mono ?_
  rw [readQ_rat ha, readQ_rat hb]
  exact fun e w' h => h
theorem zero_fits : FitsQ (0 : Rat) := ⟨f0, by show Fits ((1 : Nat) : Int); decide⟩
theorem add_small {a t : Rat} (ha : Sz 100 100 a) (ht : Sz 3 2 t) : addQ (some a) (some t) = some (a + t) := by
  have h1 : (a.num * t.den).natAbs < 10 ^ 102 := abs_mul' ha.1 ht.2
  have h2 : (t.num * a.den).natAbs < 10 ^ 103 := abs_mul' ht.1 ha.2
  have h3 : ((a.den : Int) * t.den).natAbs < 10 ^ 102 := abs_mul' ha.2 ht.2
  refine lift2_ok ⟨fits_pow h1 (by decide), fits_pow h2 (by decide), fits_pow h3 (by decide), fits_pow (j := 104) ?_ (by decide)⟩
  have e1 : (10 : Nat) ^ 103 = 10 ^ 102 * 10 := rfl
  have e2 : (10 : Nat) ^ 104 = 10 ^ 102 * 100 := rfl
  have := Int.natAbs_add_le (a.num * t.den) (t.num * a.den)
  generalize (10 : Nat) ^ 102 = P at *
  omega
structure OrdF (na da nb db nc dc nt dt d1 d2 p1 p2 q1 q2 u1 u2 v1 v2 : ByteArray) (c1 c2 c3 ct m e1 : Int) : Prop where
  ab : ∀ w, Calls Tryz.prog 17 #[.agg #[.string na, .string da], .agg #[.string nb, .string db]] w fun e w' => e = .returned (.int .i64 c1) ∧ Below w.heap.size w w'
  bc : ∀ w, Calls Tryz.prog 17 #[.agg #[.string nb, .string db], .agg #[.string nc, .string dc]] w fun e w' => e = .returned (.int .i64 c2) ∧ Below w.heap.size w w'
  ac : ∀ w, Calls Tryz.prog 17 #[.agg #[.string na, .string da], .agg #[.string nc, .string dc]] w fun e w' => e = .returned (.int .i64 c3) ∧ Below w.heap.size w w'
  ba : ∀ w, Calls Tryz.prog 17 #[.agg #[.string nb, .string db], .agg #[.string na, .string da]] w fun e w' => e = .returned (.int .i64 (-c1)) ∧ Below w.heap.size w w'
  aa : ∀ w, Calls Tryz.prog 17 #[.agg #[.string na, .string da], .agg #[.string na, .string da]] w fun e w' => e = .returned (.int .i64 0) ∧ Below w.heap.size w w'
  sub : ∀ w, Calls Tryz.prog 36 #[.agg #[.string na, .string da], .agg #[.string nb, .string db]] w fun e w' => e = .returned (.tuple #[.agg #[.string d1, .string d2], .int .i64 e1]) ∧ Below w.heap.size w w'
  subc : e1 = 40 ∨ (e1 = 0 ∧ ∀ w, Calls Tryz.prog 17 #[.agg #[.string d1, .string d2], .agg #[.string ⟨#[48]⟩, .string ⟨#[49]⟩]] w fun e w' => e = .returned (.int .i64 c1) ∧ Below w.heap.size w w')
  at_ : ∀ w, Calls Tryz.prog 34 #[.agg #[.string na, .string da], .agg #[.string nt, .string dt]] w fun e w' => e = .returned (.tuple #[.agg #[.string p1, .string p2], .int .i64 0]) ∧ Below w.heap.size w w'
  bt : ∀ w, Calls Tryz.prog 34 #[.agg #[.string nb, .string db], .agg #[.string nt, .string dt]] w fun e w' => e = .returned (.tuple #[.agg #[.string q1, .string q2], .int .i64 0]) ∧ Below w.heap.size w w'
  pq : ∀ w, Calls Tryz.prog 17 #[.agg #[.string p1, .string p2], .agg #[.string q1, .string q2]] w fun e w' => e = .returned (.int .i64 c1) ∧ Below w.heap.size w w'
  am : ∀ w, Calls Tryz.prog 35 #[.agg #[.string na, .string da], .agg #[.string nt, .string dt]] w fun e w' => e = .returned (.tuple #[.agg #[.string u1, .string u2], .int .i64 0]) ∧ Below w.heap.size w w'
  bm : ∀ w, Calls Tryz.prog 35 #[.agg #[.string nb, .string db], .agg #[.string nt, .string dt]] w fun e w' => e = .returned (.tuple #[.agg #[.string v1, .string v2], .int .i64 0]) ∧ Below w.heap.size w w'
  uv : ∀ w, Calls Tryz.prog 17 #[.agg #[.string u1, .string u2], .agg #[.string v1, .string v2]] w fun e w' => e = .returned (.int .i64 m) ∧ Below w.heap.size w w'
  tz : ∀ w, Calls Tryz.prog 17 #[.agg #[.string nt, .string dt], .agg #[.string ⟨#[48]⟩, .string ⟨#[49]⟩]] w fun e w' => e = .returned (.int .i64 ct) ∧ Below w.heap.size w w'
  prod : m = c1 * ct
  b1 : -1 ≤ c1 ∧ c1 ≤ 1
  b2 : -1 ≤ c2 ∧ c2 ≤ 1
  bm2 : -1 ≤ m ∧ m ≤ 1
  tr : c1 ≤ 0 → c2 ≤ 0 → c3 ≤ 0
  tr2 : c1 ≤ 0 → c2 < 0 → c3 < 0
  eq : (c1 = 0 ∧ na = nb ∧ da = db) ∨ (c1 ≠ 0 ∧ ¬ (na = nb ∧ da = db))
theorem intB_inj {x y : Int} (hx : Fits x) (hy : Fits y) (h : intB x = intB y) : x = y := by
  have h1 := readI_int hx
  rw [h, readI_int hy] at h1
  exact (Option.some.inj h1).symm
theorem ord_facts {a b c t : Rat} (ha : Sz 100 100 a) (hb : Sz 100 100 b) (hc : Sz 100 100 c) (ht : Sz 3 2 t) :
    OrdF (intB a.num) (intB a.den) (intB b.num) (intB b.den) (intB c.num) (intB c.den) (intB t.num) (intB t.den) (numB (subQ (some a) (some b))) (denB (subQ (some a) (some b)))
      (intB (a + t).num) (intB (a + t).den) (intB (b + t).num) (intB (b + t).den) (intB (a * t).num) (intB (a * t).den) (intB (b * t).num) (intB (b * t).den) (cmpR a b) (cmpR b c) (cmpR a c) (cmpR t 0) (cmpR (a * t) (b * t)) (errQ (subQ (some a) (some b))) := by
  have fa := ha.fits (by decide) (by decide)
  have fb := hb.fits (by decide) (by decide)
  have fc := hc.fits (by decide) (by decide)
  have ft := ht.fits (by decide) (by decide)
  have e1 := add_small ha ht
  have e2 := add_small hb ht
  have e3 := mulQ_sz ha (ht.mono (by decide) (by decide)) (by decide) (by decide)
  have e4 := mulQ_sz hb (ht.mono (by decide) (by decide)) (by decide) (by decide)
  have g1 : FitsQ (a + t) := by have := fitsO_add (some a) (some t); rwa [e1] at this
  have g2 : FitsQ (b + t) := by have := fitsO_add (some b) (some t); rwa [e2] at this
  have g3 : FitsQ (a * t) := by have := fitsO_mul (some a) (some t); rwa [e3] at this
  have g4 : FitsQ (b * t) := by have := fitsO_mul (some b) (some t); rwa [e4] at this
  have hz : ∀ {r : Rat} (_ : FitsQ r) (w : World), Calls Tryz.prog 17 #[.agg #[.string (intB r.num), .string (intB r.den)], .agg #[.string ⟨#[48]⟩, .string ⟨#[49]⟩]] w fun e w' => e = .returned (.int .i64 (cmpR r 0)) ∧ Below w.heap.size w w' := fun hr w => by
    have h := compare_rat hr zero_fits w
    rwa [show intB (0 : Rat).num = ⟨#[48]⟩ from intB_zero, show intB ((0 : Rat).den : Int) = ⟨#[49]⟩ from intB_one] at h
  refine ⟨fun w => compare_rat fa fb w, fun w => compare_rat fb fc w, fun w => compare_rat fa fc w, fun w => ?_, fun w => ?_, fun w => subO_rat fa fb w, ?_, fun w => add_rat fa ft e1 w, fun w => add_rat fb ft e2 w, fun w => ?_, fun w => mul_rat fa ft e3 w, fun w => mul_rat fb ft e4 w, fun w => compare_rat g3 g4 w, fun w => hz ft w, cmpR_mul a b t, cmpR_bounds _ _, cmpR_bounds _ _, cmpR_bounds _ _, cmpR_trans, cmpR_trans_lt, ?_⟩
  · rw [← cmpR_swap]; exact compare_rat fb fa w
  · have h := compare_rat fa fa w
    rwa [cmpR_self] at h
  · cases h : subQ (some a) (some b) with
    | none => exact .inl rfl
    | some r =>
      right
      have hf : FitsQ r := by have := fitsO_sub (some a) (some b); rwa [h] at this
      have hr : r = a - b := by
        by_cases k : okSub a b
        · rw [subQ, lift2_ok k] at h; exact (Option.some.inj h).symm
        · rw [subQ, lift2_no k] at h; cases h
      refine ⟨rfl, fun w => ?_⟩
      have := hz hf w
      rwa [hr, cmpR_sub, ← hr] at this
  · have h := compare_rat g1 g2 w
    rwa [cmpR_add] at h
  · by_cases e : a = b
    · exact .inl ⟨cmpR_zero.2 e, by rw [e], by rw [e]⟩
    · refine .inr ⟨fun k => e (cmpR_zero.1 k), fun ⟨k1, k2⟩ => e ?_⟩
      have n1 := intB_inj fa.1 fb.1 k1
      have n2 := intB_inj fa.2 fb.2 k2
      exact Rat.ext n1 (by omega)
end Go.Proofs.YtippeffbdjjcfaaGreatDoor
/- RatCardKit3: Opening an argument of two integers. -/
namespace Go.Proofs.YtippeffbdjjcfaaGreatDoor
open Go.ChangeShapes Go.WideShapes Go.ChangeAt Go.RowKit

theorem cellsI2 : Tryz.prog.cellsOf 25 = 2 := by kernel_rfl
set_option maxRecDepth 100000 in
theorem open_int2 {H : Type} {enc : TypeId × Value → H} {w : World} {b0 : Nat} {sp : Nat → Bool} {r : Reach} {base : Nat} {held : Bool} {v : Value} {d : DataW H} {ps : List MemPlace}
    (hval : Value.okWide Tryz.prog w r b0 25 v) (h : DataW.Trod enc Tryz.prog w base sp held 25 v d ps) :
    ∃ x0 x1 : Int, v = .agg #[.int .i64 x0, .int .i64 x1] ∧ (-9223372036854775808 ≤ x0 ∧ x0 ≤ 9223372036854775807) ∧ (-9223372036854775808 ≤ x1 ∧ x1 ≤ 9223372036854775807) := by
  unfold Value.okWide at hval
  rw [Tryz.underlying25] at hval
  obtain ⟨cs, rfl, hsz, _⟩ := hval
  rw [cellsI2] at hsz
  obtain ⟨fuel, hf⟩ := h
  obtain ⟨xs, m, _, _, _, hn, hel⟩ := DataW.trod_array Tryz.underlying25 hf
  rw [cellsI1] at hel
  obtain ⟨cs⟩ := cs
  match cs, hsz, xs, hn with
  | [c0, c1], _, [y0, y1], _ =>
    obtain ⟨a, ha, _, wa⟩ := DataW.trod_int Tryz.underlying3 (hel 0 (by decide))
    obtain ⟨b, hb, _, wb⟩ := DataW.trod_int Tryz.underlying3 (hel 1 (by decide))
    simp [Value.cells] at ha hb
    exact ⟨a, b, by rw [ha, hb], bounds_i64 wa, bounds_i64 wb⟩
end Go.Proofs.YtippeffbdjjcfaaGreatDoor
