/- The walk of PlanePick. -/
import Derived.Test.YtliligehofjegaaPlnMoves
import Derived.Test.YtliligehofjegaaPlnPickC
namespace Pln
/-- A sum over the map, as far as it has come. -/
def gpre (F : Pt → Int) (i k : Nat) : Int := sm (fun x => sm (fun y => F ((x : Int), (y : Int))) 41) i + sm (fun y => F ((i : Int), (y : Int))) k
theorem gpre_row (F : Pt → Int) (i : Nat) : gpre F i 41 = gpre F (i + 1) 0 := by unfold gpre; rw [sm]; simp [sm]
theorem gpre_end (F : Pt → Int) : gpre F 41 0 = grid F := by unfold gpre grid; simp [sm]
theorem gpre_step (F : Pt → Int) (i k : Nat) : gpre F i (k + 1) = gpre F i k + F ((i : Int), (k : Int)) := by unfold gpre; rw [sm]; omega
theorem sm_bd {f : Nat → Int} {M : Int} : ∀ {n : Nat}, (∀ i, i < n → 0 ≤ f i ∧ f i ≤ M) → 0 ≤ sm f n ∧ sm f n ≤ n * M
  | 0, _ => by simp [sm]
  | n + 1, h => by
    have := sm_bd (f := f) (M := M) (n := n) (fun i hi => h i (by omega))
    have := h n (by omega)
    rw [sm]; push_cast; rw [Int.add_mul]; omega
theorem gpre_bd {F : Pt → Int} (h : ∀ p, 0 ≤ F p ∧ F p ≤ 1) (i k : Nat) : 0 ≤ gpre F i k ∧ gpre F i k ≤ i * 41 + k := by
  have a := sm_bd (f := fun x => sm (fun y => F ((x : Int), (y : Int))) 41) (M := 41) (n := i) (fun x _ => by
    have := sm_bd (f := fun y => F ((x : Int), (y : Int))) (M := 1) (n := 41) (fun y _ => h _)
    omega)
  have b := sm_bd (f := fun y => F ((i : Int), (y : Int))) (M := 1) (n := k) (fun y _ => h _)
  unfold gpre; omega
def inF (l : List Pt) (p : Pt) : Int := if insP l p = 1 then 1 else 0
def bdF (l : List Pt) (p : Pt) : Int := if insP l p = 0 then 1 else 0
theorem inF_bd (l : List Pt) (p : Pt) : 0 ≤ inF l p ∧ inF l p ≤ 1 := by unfold inF; split <;> omega
theorem bdF_bd (l : List Pt) (p : Pt) : 0 ≤ bdF l p ∧ bdF l p ≤ 1 := by unfold bdF; split <;> omega
end Pln
namespace Go.Proofs.Ytliligehofjegaa
open Go.RowKit Go.Shelf Pln
set_option maxRecDepth 100000 in
set_option maxHeartbeats 1000000 in
theorem pick_w (x : List Pt) (hx : (x.length : Int) ≤ 9223372036854775807) (v1 : Value) (w : World) (h1 : PtsAt w v1 x) :
    Calls Try.prog 4 #[v1] w fun e w' => e = .returned (.bool true) ∧ Below w.heap.size w w' := by
  have HMD := Lib.hid (fun w1 (hB : Below w.heap.size w w1) => made_w x hx 0 40 (by omega) (by omega) (by omega) v1 w1 (h1.via hB))
  have HVL := Lib.hid (made40 x)
  obtain ⟨⟨a1, c1, rfl, _, _, _⟩, _⟩ := h1
  clear hx
  generalize x.length = xn at *
  generalize madeP x 0 40 = l at *
  go_enter Try.func4, Try.ntmps4
  go_wp2_with fail
  refine (sane_w _).mono ?_
  rintro e w1 ⟨rfl, hB1⟩
  go_wp2_with fail
  refine (HMD.out _ hB1).mono ?_
  rintro e w2 ⟨r, rfl, hr, hB2⟩
  obtain ⟨gl, ol, cl, n, rfl, hPL⟩ := poly_of hr HVL.out
  have HL := Lib.hid hPL
  have HBW := Lib.hid (belowStep hB1 hB2)
  obtain ⟨hn3, hn8⟩ := hPL.bd
  have hn8b : (n : Int) ≤ 8 := by omega
  clear hB1 hB2 hr hPL HMD
  have KL := Lib.hid (fun w1 (hB : Below w2.heap.size w2 w1) => lattice_w l HL.out.len _ w1 (HL.out.at_.via hB))
  have KV := Lib.hid (fun w1 (hB : Below w2.heap.size w2 w1) => valid_w l HL.out.len _ w1 (HL.out.at_.via hB))
  have KR := Lib.hid (fun w1 (hB : Below w2.heap.size w2 w1) => area_w l HL.out.len _ w1 (HL.out.at_.via hB))
  have KI := Lib.hid (fun w1 (hB : Below w2.heap.size w2 w1) (p1 p2 : Int) (hp : On (p1, p2)) => inside_w l HL.out.len (p1, p2) (on_i64 hp) _ w1 (HL.out.at_.via hB))
  unfold pv at KI
  dsimp only at KI
  rw [HL.out.vb] at KV
  have HF := Lib.hid (pick_f HVL.out)
  change Hid (PickF l (grid (inF l)) (grid (bdF l))) at HF
  rw [← gpre_end (inF l), ← gpre_end (bdF l)] at HF
  rw [HF.out.inn, HF.out.bnd] at KL
  rw [HF.out.area] at KR
  have hlen : (n : Int) ≤ gpre (bdF l) 41 0 := by have := HF.out.len; have := HL.out.hn; omega
  have bi := gpre_bd (inF_bd l) 41 0
  have bb := gpre_bd (bdF_bd l) 41 0
  have GI := Lib.hid (fun i k => gpre_step (inF l) i k)
  have GB := Lib.hid (fun i k => gpre_step (bdF l) i k)
  have RI := Lib.hid (fun i => gpre_row (inF l) i)
  have RB := Lib.hid (fun i => gpre_row (bdF l) i)
  have BI := Lib.hid (fun i k => gpre_bd (inF_bd l) i k)
  have BB := Lib.hid (fun i k => gpre_bd (bdF_bd l) i k)
  have EI : Hid (∀ p, inF l p = if insP l p = 1 then 1 else 0) := Lib.hid (fun _ => rfl)
  have EB : Hid (∀ p, bdF l p = if insP l p = 0 then 1 else 0) := Lib.hid (fun _ => rfl)
  clear HF
  generalize gpre (inF l) = gi at *
  generalize gpre (bdF l) = gb at *
  go_wp2_with fail
  refine (KL.out _ (Below.refl _ _)).mono ?_
  rintro e w3 ⟨rfl, hB⟩
  have HC3 := Lib.hid hB
  clear hB
  have z1 : gi 0 0 = 0 := by have := BI.out 0 0; omega
  have z2 : gb 0 0 = 0 := by have := BB.out 0 0; omega
  go_wp2_with fail
  go_loopw [7, 8, 9] (fun c d i wr => ∃ iN : Nat, c = .int .i64 (gi iN 0) ∧ d = .int .i64 (gb iN 0) ∧ i = .int .i64 iN ∧ iN ≤ 41 ∧ Below w3.heap.size w3 wr) (fun _ _ i _ => 41 - (intOf i).toNat)
  case atStart => exact ⟨0, by rw [z1], by rw [z2], rfl, by omega, Below.refl _ _⟩
  case round =>
    obtain ⟨iN, rfl, rfl, rfl, hi41, hB⟩ := hrel
    have HBo := Lib.hid hB
    clear hB
    by_cases hi : iN ≤ 40
    · have hi' : (iN : Int) ≤ 40 := by omega
      go_wp2_with fail
      go_loopw [7, 8, 10] (fun c d k wq => ∃ kN : Nat, c = .int .i64 (gi iN kN) ∧ d = .int .i64 (gb iN kN) ∧ k = .int .i64 kN ∧ kN ≤ 41 ∧ Below w3.heap.size w3 wq) (fun _ _ k _ => 41 - (intOf k).toNat)
      case atStart => exact ⟨0, rfl, rfl, rfl, by omega, HBo.out⟩
      case round =>
        obtain ⟨kN, rfl, rfl, rfl, hk41, hB⟩ := hrel
        have HBi := Lib.hid hB
        clear hB
        by_cases hk : kN ≤ 40
        · have hk' : (kN : Int) ≤ 40 := by omega
          have hon : On ((iN : Int), (kN : Int)) := ⟨by dsimp only; omega, by dsimp only; omega, by dsimp only; omega, by dsimp only; omega⟩
          have HON := Lib.hid hon
          have s1 := BI.out iN kN
          have s2 := BB.out iN kN
          have q1 : IntKind.i64.wrap (gi iN kN + 1) = gi iN kN + 1 := IntWalk.i64_in _ (by omega)
          have q2 : IntKind.i64.wrap (gb iN kN + 1) = gb iN kN + 1 := IntWalk.i64_in _ (by omega)
          have t1 := GI.out iN kN
          have t2 := GB.out iN kN
          rw [EI.out] at t1
          rw [EB.out] at t2
          have T1 := Lib.hid t1
          have T2 := Lib.hid t2
          have CI := Lib.hid (insP_cases l (iN, kN))
          clear hon s1 s2 t1 t2
          go_wp2_with fail
          refine (sn_at _ _ _).mono ?_
          rintro e z4 ⟨rfl, hB⟩
          have HC4 := Lib.hid (belowStep HBi.out hB)
          clear hB
          go_wp2_with fail
          refine (KI.out _ (belowStep HC3.out HC4.out) iN kN HON.out).mono ?_
          rintro e z5 ⟨rfl, hB⟩
          have HC5 := Lib.hid (belowStep HC4.out hB)
          clear hB
          generalize insP l (iN, kN) = u at *
          rcases CI.out with h | h | h
          · subst h
            rw [if_pos rfl] at T1
            rw [if_neg (by omega), Int.add_zero] at T2
            go_wp2_with fail
            go_roundw
            case rel => exact ⟨kN + 1, by rw [T1.out], by rw [T2.out], by go_num, by omega, HC5.out⟩
            case measure => simp [intOf]; omega
          · subst h
            rw [if_neg (by omega), Int.add_zero] at T1
            rw [if_pos rfl] at T2
            go_wp2_with fail
            go_roundw
            case rel => exact ⟨kN + 1, by rw [T1.out], by rw [T2.out], by go_num, by omega, HC5.out⟩
            case measure => simp [intOf]; omega
          · subst h
            rw [if_neg (by omega), Int.add_zero] at T1
            rw [if_neg (by omega), Int.add_zero] at T2
            go_wp2_with fail
            go_roundw
            case rel => exact ⟨kN + 1, by rw [T1.out], by rw [T2.out], by go_num, by omega, HC5.out⟩
            case measure => simp [intOf]; omega
        · obtain rfl : kN = 41 := by omega
          have r1 := RI.out iN
          have r2 := RB.out iN
          go_wp2_with fail
          go_roundw
          case rel => exact ⟨iN + 1, by rw [r1], by rw [r2], by go_num, by omega, HBi.out⟩
          case measure => simp [intOf]; omega
    · obtain rfl : iN = 41 := by omega
      generalize gi 41 0 = ni at *
      generalize gb 41 0 = nb at *
      obtain ⟨bi1, bi2⟩ := bi
      obtain ⟨bb1, bb2⟩ := bb
      have q1 : IntKind.i64.wrap (2 * ni) = 2 * ni := IntWalk.i64_in _ (by omega)
      have q2 : IntKind.i64.wrap (2 * ni + nb) = 2 * ni + nb := IntWalk.i64_in _ (by omega)
      have q3 : IntKind.i64.wrap (2 * ni + nb - 2) = 2 * ni + nb - 2 := IntWalk.i64_in _ (by omega)
      clear GI GB RI RB BI BB
      go_wp2_with fail
      refine (KV.out _ (belowStep HC3.out HBo.out)).mono ?_
      rintro e z6 ⟨rfl, hB⟩
      have HC6 := Lib.hid (belowStep (belowStep HC3.out HBo.out) hB)
      clear hB
      go_wp2_with fail
      refine (KR.out _ HC6.out).mono ?_
      rintro e z7 ⟨rfl, hB⟩
      have HC7 := Lib.hid (belowStep HBW.out (belowStep HC6.out hB))
      clear hB
      go_wp2_with fail
      go_ret
      exact ⟨rfl, HC7.out⟩
end Go.Proofs.Ytliligehofjegaa
