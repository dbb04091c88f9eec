/- What RationalField calls, for any fractions. -/
import Derived.Test.YtelckldddflmmaaGreatDoorRM5
namespace Go.Proofs.YtelckldddflmmaaGreatDoor
open Go.RowKit Putlog

theorem sized_numO {x : Option Rat} (h : FitsO x) : Sized (numB x) ∧ Sized (denB x) := by
  cases x with
  | none => exact ⟨sized_nil, sized_nil⟩
  | some q => exact ⟨sized_fits h.1, sized_fits h.2⟩
theorem add_little {a t : Rat} (ha : Sz 100 100 a) (ht : Sz 3 2 t) : addQ (some a) (some t) = some (a + t) := by
  have h1 : (a.num * t.den).natAbs < 10 ^ 102 := abs_mul' ha.1 ht.2
  have h2 : (t.num * a.den).natAbs < 10 ^ 103 := abs_mul' ht.1 ha.2
  have h3 : ((a.den : Int) * t.den).natAbs < 10 ^ 102 := abs_mul' ha.2 ht.2
  refine lift2_ok ⟨fits_pow h1 (by decide), fits_pow h2 (by decide), fits_pow h3 (by decide), fits_pow (j := 104) ?_ (by decide)⟩
  have e1 : (10 : Nat) ^ 103 = 10 ^ 102 * 10 := rfl
  have e2 : (10 : Nat) ^ 104 = 10 ^ 102 * 100 := rfl
  have := Int.natAbs_add_le (a.num * t.den) (t.num * a.den)
  generalize (10 : Nat) ^ 102 = P at *
  omega
/-- A call of an operation on two fractions. -/
def OpC (f : FuncId) (x1 x2 y1 y2 n d : ByteArray) (e : Int) : Prop := ∀ w, Calls Tryz.prog f #[.agg #[.string x1, .string x2], .agg #[.string y1, .string y2]] w fun r w' => r = .returned (.tuple #[.agg #[.string n, .string d], .int .i64 e]) ∧ Below w.heap.size w w'
def FourC (x1 x2 y1 y2 n0 d0 n1 d1 n2 d2 n3 d3 : ByteArray) (k0 k1 k2 k3 : Int) : Prop := ∀ w, Calls Tryz.prog 10 #[.agg #[.string x1, .string x2], .agg #[.string y1, .string y2]] w fun e w' => e = .returned (.tuple #[.agg #[.string n0, .string d0, .string n1, .string d1, .string n2, .string d2, .string n3, .string d3], .agg #[.int .i64 k0, .int .i64 k1, .int .i64 k2, .int .i64 k3]]) ∧ Below w.heap.size w w'
theorem add_o {x y : Option Rat} (hx : FitsO x) (hy : FitsO y) : OpC 32 (numB x) (denB x) (numB y) (denB y) (numB (addQ x y)) (denB (addQ x y)) (errQ (addQ x y)) := fun w => by
  have h := add_q (numB x) (denB x) (numB y) (denB y) (sized_numO hx).1 (sized_numO hx).2 (sized_numO hy).1 (sized_numO hy).2 w
  rw [readQ_parts hx, readQ_parts hy] at h; exact h
theorem sub_o {x y : Option Rat} (hx : FitsO x) (hy : FitsO y) : OpC 34 (numB x) (denB x) (numB y) (denB y) (numB (subQ x y)) (denB (subQ x y)) (errQ (subQ x y)) := fun w => by
  have h := sub_q (numB x) (denB x) (numB y) (denB y) (sized_numO hx).1 (sized_numO hx).2 (sized_numO hy).1 (sized_numO hy).2 w
  rw [readQ_parts hx, readQ_parts hy] at h; exact h
theorem mul_o {x y : Option Rat} (hx : FitsO x) (hy : FitsO y) : OpC 33 (numB x) (denB x) (numB y) (denB y) (numB (mulQ x y)) (denB (mulQ x y)) (errQ (mulQ x y)) := fun w => by
  have h := mul_q (numB x) (denB x) (numB y) (denB y) (sized_numO hx).1 (sized_numO hx).2 (sized_numO hy).1 (sized_numO hy).2 w
  rw [readQ_parts hx, readQ_parts hy] at h; exact h
theorem div_o {x y : Option Rat} (hx : FitsO x) (hy : FitsO y) : OpC 36 (numB x) (denB x) (numB y) (denB y) (numB (divQ x y)) (denB (divQ x y)) (errQ (divQ x y)) := fun w => by
  have h := div_q (numB x) (denB x) (numB y) (denB y) (sized_numO hx).1 (sized_numO hx).2 (sized_numO hy).1 (sized_numO hy).2 w
  rw [readQ_parts hx, readQ_parts hy] at h; exact h
theorem four_o {x y : Option Rat} (hx : FitsO x) (hy : FitsO y) : FourC (numB x) (denB x) (numB y) (denB y) (numB (addQ x y)) (denB (addQ x y)) (numB (subQ x y)) (denB (subQ x y)) (numB (mulQ x y)) (denB (mulQ x y)) (numB (divQ x y)) (denB (divQ x y)) (errQ (addQ x y)) (errQ (subQ x y)) (errQ (mulQ x y)) (errQ (divQ x y)) :=
  four_raw _ _ _ _ _ _ _ _ _ _ _ _ _ _ _ _ (add_o hx hy) (sub_o hx hy) (mul_o hx hy) (div_o hx hy)
theorem err_zero {x : Option Rat} (h : errQ x = 0) : ∃ q, x = some q := by
  cases x with
  | none => cases h
  | some q => exact ⟨q, rfl⟩
structure FieldF (lg : Bool) (na da nb db nc dc : ByteArray) (n0 d0 n1 d1 n2 d2 n3 d3 m1 l1 m3 l3 p0 q0 p1 q1 p2 q2 p3 q3 t0 u0 t1 u1 t2 u2 t3 u3 o1 o2 v1 v2 x1 x2 y1 y2 z1 z2 w1 w2 r1 r2 s1 s2 : ByteArray) (e0 e1 e2 e3 f1 f3 g0 g1 g2 g3 h0 h1 h2 h3 ei ej ek el em en eo ep : Int) : Prop where
  ab : FourC na da nb db n0 d0 n1 d1 n2 d2 n3 d3 e0 e1 e2 e3
  ba : FourC nb db na da n0 d0 m1 l1 n2 d2 m3 l3 e0 f1 e2 f3
  bc : FourC nb db nc dc p0 q0 p1 q1 p2 q2 p3 q3 g0 g1 g2 g3
  abc : FourC n0 d0 nc dc t0 u0 t1 u1 t2 u2 t3 u3 h0 h1 h2 h3
  one : OpC 32 na da p0 q0 o1 o2 ei
  two : OpC 33 na da p2 q2 v1 v2 ej
  left : OpC 33 n2 d2 nc dc x1 x2 ek
  ac : OpC 33 na da nc dc y1 y2 el
  sum : OpC 32 y1 y2 p2 q2 z1 z2 em
  whole : OpC 33 n0 d0 nc dc w1 w2 en
  back : OpC 34 n0 d0 nb db r1 r2 eo
  again : OpC 33 n3 d3 nb db s1 s2 ep
  ok : lg = false → e0 = 0 ∧ e2 = 0
  as1 : e0 = 0 → g0 = 0 → h0 = 0 → ei = 0 → t0 = o1 ∧ u0 = o2
  as2 : e2 = 0 → g2 = 0 → ej = 0 → ek = 0 → v1 = x1 ∧ v2 = x2
  ds : e0 = 0 → el = 0 → g2 = 0 → em = 0 → en = 0 → z1 = w1 ∧ z2 = w2
  bk : e0 = 0 → eo = 0 → r1 = na ∧ r2 = da
  ag : e3 = 0 → ep = 0 → s1 = na ∧ s2 = da
set_option maxRecDepth 100000 in
theorem field_facts {lg : Bool} {a b c : Rat} (ha : FitsQ a) (hb : FitsQ b) (hc : FitsQ c) (hl : lg = false → (∃ r, addQ (some a) (some b) = some r) ∧ ∃ r, mulQ (some a) (some b) = some r) :
    ∃ (n0 d0 n1 d1 n2 d2 n3 d3 m1 l1 m3 l3 p0 q0 p1 q1 p2 q2 p3 q3 t0 u0 t1 u1 t2 u2 t3 u3 o1 o2 v1 v2 x1 x2 y1 y2 z1 z2 w1 w2 r1 r2 s1 s2 : ByteArray) (e0 e1 e2 e3 f1 f3 g0 g1 g2 g3 h0 h1 h2 h3 ei ej ek el em en eo ep : Int),
      FieldF lg (intB a.num) (intB a.den) (intB b.num) (intB b.den) (intB c.num) (intB c.den) n0 d0 n1 d1 n2 d2 n3 d3 m1 l1 m3 l3 p0 q0 p1 q1 p2 q2 p3 q3 t0 u0 t1 u1 t2 u2 t3 u3 o1 o2 v1 v2 x1 x2 y1 y2 z1 z2 w1 w2 r1 r2 s1 s2 e0 e1 e2 e3 f1 f3 g0 g1 g2 g3 h0 h1 h2 h3 ei ej ek el em en eo ep := by
  obtain ⟨A, hA⟩ : ∃ A, A = some a := ⟨_, rfl⟩
  obtain ⟨B, hB⟩ : ∃ B, B = some b := ⟨_, rfl⟩
  obtain ⟨C, hC⟩ : ∃ C, C = some c := ⟨_, rfl⟩
  have fA : FitsO A := by rw [hA]; exact ha
  have fB : FitsO B := by rw [hB]; exact hb
  have fC : FitsO C := by rw [hC]; exact hc
  have eA : numB A = intB a.num ∧ denB A = intB a.den := by rw [hA]; exact ⟨rfl, rfl⟩
  have eB : numB B = intB b.num ∧ denB B = intB b.den := by rw [hB]; exact ⟨rfl, rfl⟩
  have eC : numB C = intB c.num ∧ denB C = intB c.den := by rw [hC]; exact ⟨rfl, rfl⟩
  obtain ⟨S0, hS0⟩ : ∃ S0, S0 = addQ A B := ⟨_, rfl⟩
  have fS0 : FitsO S0 := by rw [hS0]; exact fitsO_add _ _
  obtain ⟨S1, hS1⟩ : ∃ S1, S1 = subQ A B := ⟨_, rfl⟩
  have fS1 : FitsO S1 := by rw [hS1]; exact fitsO_sub _ _
  obtain ⟨S2, hS2⟩ : ∃ S2, S2 = mulQ A B := ⟨_, rfl⟩
  have fS2 : FitsO S2 := by rw [hS2]; exact fitsO_mul _ _
  obtain ⟨S3, hS3⟩ : ∃ S3, S3 = divQ A B := ⟨_, rfl⟩
  have fS3 : FitsO S3 := by rw [hS3]; exact fitsO_div _ _
  obtain ⟨R1, hR1⟩ : ∃ R1, R1 = subQ B A := ⟨_, rfl⟩
  have fR1 : FitsO R1 := by rw [hR1]; exact fitsO_sub _ _
  obtain ⟨R3, hR3⟩ : ∃ R3, R3 = divQ B A := ⟨_, rfl⟩
  have fR3 : FitsO R3 := by rw [hR3]; exact fitsO_div _ _
  obtain ⟨P0, hP0⟩ : ∃ P0, P0 = addQ B C := ⟨_, rfl⟩
  have fP0 : FitsO P0 := by rw [hP0]; exact fitsO_add _ _
  obtain ⟨P1, hP1⟩ : ∃ P1, P1 = subQ B C := ⟨_, rfl⟩
  have fP1 : FitsO P1 := by rw [hP1]; exact fitsO_sub _ _
  obtain ⟨P2, hP2⟩ : ∃ P2, P2 = mulQ B C := ⟨_, rfl⟩
  have fP2 : FitsO P2 := by rw [hP2]; exact fitsO_mul _ _
  obtain ⟨P3, hP3⟩ : ∃ P3, P3 = divQ B C := ⟨_, rfl⟩
  have fP3 : FitsO P3 := by rw [hP3]; exact fitsO_div _ _
  obtain ⟨T0, hT0⟩ : ∃ T0, T0 = addQ S0 C := ⟨_, rfl⟩
  have fT0 : FitsO T0 := by rw [hT0]; exact fitsO_add _ _
  obtain ⟨T1, hT1⟩ : ∃ T1, T1 = subQ S0 C := ⟨_, rfl⟩
  have fT1 : FitsO T1 := by rw [hT1]; exact fitsO_sub _ _
  obtain ⟨T2, hT2⟩ : ∃ T2, T2 = mulQ S0 C := ⟨_, rfl⟩
  have fT2 : FitsO T2 := by rw [hT2]; exact fitsO_mul _ _
  obtain ⟨T3, hT3⟩ : ∃ T3, T3 = divQ S0 C := ⟨_, rfl⟩
  have fT3 : FitsO T3 := by rw [hT3]; exact fitsO_div _ _
  obtain ⟨O, hO⟩ : ∃ O, O = addQ A P0 := ⟨_, rfl⟩
  have fO : FitsO O := by rw [hO]; exact fitsO_add _ _
  obtain ⟨V, hV⟩ : ∃ V, V = mulQ A P2 := ⟨_, rfl⟩
  have fV : FitsO V := by rw [hV]; exact fitsO_mul _ _
  obtain ⟨X, hX⟩ : ∃ X, X = mulQ S2 C := ⟨_, rfl⟩
  have fX : FitsO X := by rw [hX]; exact fitsO_mul _ _
  obtain ⟨Y, hY⟩ : ∃ Y, Y = mulQ A C := ⟨_, rfl⟩
  have fY : FitsO Y := by rw [hY]; exact fitsO_mul _ _
  obtain ⟨Z, hZ⟩ : ∃ Z, Z = addQ Y P2 := ⟨_, rfl⟩
  have fZ : FitsO Z := by rw [hZ]; exact fitsO_add _ _
  obtain ⟨W, hW⟩ : ∃ W, W = mulQ S0 C := ⟨_, rfl⟩
  have fW : FitsO W := by rw [hW]; exact fitsO_mul _ _
  obtain ⟨K, hK⟩ : ∃ K, K = subQ S0 B := ⟨_, rfl⟩
  have fK : FitsO K := by rw [hK]; exact fitsO_sub _ _
  obtain ⟨G, hG⟩ : ∃ G, G = mulQ S3 B := ⟨_, rfl⟩
  have fG : FitsO G := by rw [hG]; exact fitsO_mul _ _
  have cab := four_o fA fB
  rw [← hS0, ← hS1, ← hS2, ← hS3] at cab
  have cba := four_o fB fA
  rw [addQ_comm B A, mulQ_comm B A, ← hS0, ← hS2, ← hR1, ← hR3] at cba
  have cbc := four_o fB fC
  rw [← hP0, ← hP1, ← hP2, ← hP3] at cbc
  have cabc := four_o fS0 fC
  rw [← hT0, ← hT1, ← hT2, ← hT3] at cabc
  have cO := add_o fA fP0
  rw [← hO] at cO
  have cV := mul_o fA fP2
  rw [← hV] at cV
  have cX := mul_o fS2 fC
  rw [← hX] at cX
  have cY := mul_o fA fC
  rw [← hY] at cY
  have cZ := add_o fY fP2
  rw [← hZ] at cZ
  have cW := mul_o fS0 fC
  rw [← hW] at cW
  have cK := sub_o fS0 fB
  rw [← hK] at cK
  have cG := mul_o fS3 fB
  rw [← hG] at cG
  rw [← eA.1, ← eA.2, ← eB.1, ← eB.2, ← eC.1, ← eC.2]
  rw [← hA, ← hB, ← hS0, ← hS2] at hl
  refine ⟨numB S0, denB S0, numB S1, denB S1, numB S2, denB S2, numB S3, denB S3, numB R1, denB R1, numB R3, denB R3, numB P0, denB P0, numB P1, denB P1, numB P2, denB P2, numB P3, denB P3, numB T0, denB T0, numB T1, denB T1, numB T2, denB T2, numB T3, denB T3, numB O, denB O, numB V, denB V, numB X, denB X, numB Y, denB Y, numB Z, denB Z, numB W, denB W, numB K, denB K, numB G, denB G, errQ S0, errQ S1, errQ S2, errQ S3, errQ R1, errQ R3, errQ P0, errQ P1, errQ P2, errQ P3, errQ T0, errQ T1, errQ T2, errQ T3, errQ O, errQ V, errQ X, errQ Y, errQ Z, errQ W, errQ K, errQ G, cab, cba, cbc, cabc, cO, cV, cX, cY, cZ, cW, cK, cG, ?_, ?_, ?_, ?_, ?_, ?_⟩
  · intro h
    obtain ⟨⟨x, k1⟩, ⟨y, k2⟩⟩ := hl h
    exact ⟨by rw [k1]; rfl, by rw [k2]; rfl⟩
  · intro _ _ k1 k2
    obtain ⟨x, hx⟩ := err_zero k1
    obtain ⟨y, hy⟩ := err_zero k2
    have := addQ_assoc hS0.symm hP0.symm hT0.symm hO.symm hx hy
    rw [hx, hy, this]; exact ⟨rfl, rfl⟩
  · intro _ _ k1 k2
    obtain ⟨x, hx⟩ := err_zero k1
    obtain ⟨y, hy⟩ := err_zero k2
    have := mulQ_assoc hS2.symm hP2.symm hX.symm hV.symm hy hx
    rw [hx, hy, this]; exact ⟨rfl, rfl⟩
  · intro _ _ _ k1 k2
    obtain ⟨x, hx⟩ := err_zero k1
    obtain ⟨y, hy⟩ := err_zero k2
    have := distrQ hS0.symm hY.symm hP2.symm hZ.symm hW.symm hx hy
    rw [hx, hy, this]; exact ⟨rfl, rfl⟩
  · intro _ k2
    obtain ⟨y, hy⟩ := err_zero k2
    rw [hA, hB] at hS0
    rw [hB] at hK
    have := backQ hS0.symm hK.symm hy
    rw [hy, hA, this]; exact ⟨rfl, rfl⟩
  · intro _ k2
    obtain ⟨y, hy⟩ := err_zero k2
    rw [hA, hB] at hS3
    rw [hB] at hG
    have := againQ hS3.symm hG.symm hy
    rw [hy, hA, this]; exact ⟨rfl, rfl⟩
end Go.Proofs.YtelckldddflmmaaGreatDoor
