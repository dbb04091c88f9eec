/- Several texts of layers 7 and 8, one behind the other: UntKit, UntValid, PlnSide, PlnSeam, PlnSeamW, UntCom, UntTouch, PlnSame, UntRefA, UntRegC, WirePure, WireLeaf, WireGroups. -/
import Derived.Deep.DeepCutAuto
import Derived.WalkKit
import Derived.WalkSpells
import Derived.WalkLawsBesides
import Derived.Lib.Hide
import Derived.RangeFuncNested
import Derived.RangeFuncBound
import Derived.RangeFuncCalls
import Derived.RangeFuncLeaves
import Derived.RangeFuncOne
import Derived.Shelf.Abstract
import Derived.Shelf.RegionOpen
import Derived.OwnWalkIn
import Derived.TacticsInMore
import Derived.LoopNIn
import Derived.LoopIn
import Derived.Test.YtcamncipkofgkaaDoorRows
import Derived.Test.YtcamncipkofgkaaDoorUM5
/- UntKit: Units: as values, in memory, and when they are valid. -/
namespace Unt
open Pln
structure U where
  id : Int
  kind : Int
  mat : Int
  shape : List Pt
  back : Int
  front : Int
def namedB (u : U) : Bool := decide (0 ≤ u.id) && decide (u.id ≤ 99)
def madeB (u : U) : Bool := decide (1 ≤ u.kind) && decide (u.kind ≤ 8) && (decide (0 ≤ u.mat) && decide (u.mat ≤ 7))
def deepB (u : U) : Bool := decide (0 ≤ u.back) && decide (u.back < u.front) && decide (u.front ≤ 8)
def valU (u : U) : Bool := namedB u && madeB u && deepB u && valB u.shape
structure ValU (u : U) : Prop where
  id0 : 0 ≤ u.id
  id1 : u.id ≤ 99
  k0 : 1 ≤ u.kind
  k1 : u.kind ≤ 8
  m0 : 0 ≤ u.mat
  m1 : u.mat ≤ 7
  b0 : 0 ≤ u.back
  bf : u.back < u.front
  f1 : u.front ≤ 8
  v : Val u.shape
theorem valU_iff (u : U) : valU u = true ↔ ValU u := by
  unfold valU namedB madeB deepB
  simp only [Bool.and_eq_true, decide_eq_true_eq, valB_iff]
  exact ⟨fun h => ⟨h.1.1.1.1, h.1.1.1.2, h.1.1.2.1.1, h.1.1.2.1.2, h.1.1.2.2.1, h.1.1.2.2.2, h.1.2.1.1, h.1.2.1.2, h.1.2.2, h.2⟩,
    fun h => ⟨⟨⟨⟨h.id0, h.id1⟩, ⟨h.k0, h.k1⟩, h.m0, h.m1⟩, ⟨h.b0, h.bf⟩, h.f1⟩, h.v⟩⟩
end Unt
namespace Go.Proofs.YtcamncipkofgkaaDoor
open Go.RowKit Go.Shelf Pln Unt
/-- A unit as a value, its shape's slice given. -/
def uv (u : U) (s : Value) : Value := .agg #[.int .i64 u.id, .int .i64 u.kind, .int .i64 u.mat, s, .int .i64 u.back, .int .i64 u.front]
structure UOk (u : U) : Prop where
  id : I64 u.id
  kind : I64 u.kind
  mat : I64 u.mat
  back : I64 u.back
  front : I64 u.front
  len : Len u.shape
/-- A unit in memory: where its shape lies. -/
structure UAt (w : World) (s : Value) (u : U) : Prop where
  ok : UOk u
  at_ : PtsAt w s u.shape
theorem UAt.via {w w' : World} {s : Value} {u : U} (h : UAt w s u) (hB : Below w.heap.size w w') : UAt w' s u := ⟨h.ok, h.at_.via hB⟩
theorem valU_ok {u : U} (h : ValU u) : UOk u := by
  have := h.id0; have := h.id1; have := h.k0; have := h.k1; have := h.m0; have := h.m1; have := h.b0; have := h.bf; have := h.f1
  exact ⟨⟨by omega, by omega⟩, ⟨by omega, by omega⟩, ⟨by omega, by omega⟩, ⟨by omega, by omega⟩, ⟨by omega, by omega⟩, by have := h.v.hi; unfold Len; omega⟩
/-- The cells of a boxed unit. -/
structure UBox (w : World) (b : Nat) (u : U) (s : Value) : Prop where
  c0 : w.cell? ⟨b, 0, none⟩ = some (.int .i64 u.id)
  c1 : w.cell? ⟨b, 1, none⟩ = some (.int .i64 u.kind)
  c2 : w.cell? ⟨b, 2, none⟩ = some (.int .i64 u.mat)
  c3 : w.cell? ⟨b, 3, none⟩ = some s
  c4 : w.cell? ⟨b, 4, none⟩ = some (.int .i64 u.back)
  c5 : w.cell? ⟨b, 5, none⟩ = some (.int .i64 u.front)
theorem UBox.via {w w' : World} {b : Nat} {u : U} {s : Value} (h : UBox w b u s) (hB : Below w.heap.size w w') : UBox w' b u s :=
  ⟨keptBelow hB h.c0, keptBelow hB h.c1, keptBelow hB h.c2, keptBelow hB h.c3, keptBelow hB h.c4, keptBelow hB h.c5⟩
/-- The object that a boxed unit is. -/
def uo (u : U) (s : Value) : Obj := .cells #[.int .i64 u.id, .int .i64 u.kind, .int .i64 u.mat, s, .int .i64 u.back, .int .i64 u.front] 27
theorem UBox.new (w : World) (u : U) (s : Value) : UBox (w.alloc (uo u s)) w.heap.size u s :=
  ⟨cell_rowN w _ _ 0 rfl, cell_rowN w _ _ 1 rfl, cell_rowN w _ _ 2 rfl, cell_rowN w _ _ 3 rfl, cell_rowN w _ _ 4 rfl, cell_rowN w _ _ 5 rfl⟩

set_option maxRecDepth 100000 in
theorem isMaterial_w (m : Int) (w : World) :
    Calls Tryd.prog 47 #[.int .i64 m] w fun e w' => e = .returned (.bool (decide (0 ≤ m) && decide (m ≤ 7))) ∧ w = w' := by
  by_cases h1 : 0 ≤ m
  · have e : (decide (0 ≤ m) && decide (m ≤ 7)) = decide (m ≤ 7) := by rw [decide_eq_true h1, Bool.true_and]
    rw [e]
    go_enter Tryd.func47, Tryd.ntmps47
    go_wp2_with fail
    go_ret
    exact ⟨rfl, rfl⟩
  · have e : (decide (0 ≤ m) && decide (m ≤ 7)) = false := by rw [decide_eq_false h1, Bool.false_and]
    rw [e]
    have hd : decide (0 ≤ m) = false := decide_eq_false h1
    go_enter Tryd.func47, Tryd.ntmps47
    go_wp2_with fail
    go_ret
    exact ⟨rfl, rfl⟩
set_option maxRecDepth 100000 in
theorem depth_w (u : U) (s : Value) (hf : I64 u.front) (hb : 0 ≤ u.back) (hbf : u.back ≤ u.front) (w : World) :
    Calls Tryd.prog 51 #[uv u s] w fun e w' => e = .returned (.int .i64 (u.front - u.back)) ∧ Below w.heap.size w w' := by
  have hB := alloc_below w (uo u s)
  have H := UBox.new w u s
  have c4 := H.c4
  have c5 := H.c5
  obtain ⟨f1, f2⟩ := hf
  have hw : IntKind.i64.wrap (u.front - u.back) = u.front - u.back := IntWalk.i64_in _ (by omega)
  have HB := Lib.hid hB
  unfold uo at HB c4 c5
  unfold uv
  clear H hB
  obtain ⟨i, k, m, sh, b, f⟩ := u
  dsimp only at *
  go_enter Tryd.func51, Tryd.ntmps51
  go_wp2_with fail
  go_ret
  exact ⟨rfl, HB.out⟩
end Go.Proofs.YtcamncipkofgkaaDoor
/- UntValid: The contract of unit.Valid. -/
namespace Go.Proofs.YtcamncipkofgkaaDoor
open Go.RowKit Go.Shelf Pln Unt

set_option maxRecDepth 100000 in
set_option maxHeartbeats 1000000 in
theorem validU_w (u : U) (s : Value) (w : World) (h : UAt w s u) :
    Calls Tryd.prog 17 #[uv u s] w fun e w' => e = .returned (.bool (valU u)) ∧ Below w.heap.size w w' := by
  have hB := alloc_below w (uo u s)
  have HU := Lib.hid (UBox.new w u s)
  have HV := Lib.hid (fun w1 (hB : Below w.heap.size w w1) => valid_w u.shape h.ok.len s w1 (h.at_.via hB))
  have HB := Lib.hid hB
  have HE : Hid (valU u = (namedB u && madeB u && deepB u && valB u.shape)) := Lib.hid rfl
  have HN : Hid (namedB u = (decide (0 ≤ u.id) && decide (u.id ≤ 99))) := Lib.hid rfl
  have HM : Hid (madeB u = (decide (1 ≤ u.kind) && decide (u.kind ≤ 8) && (decide (0 ≤ u.mat) && decide (u.mat ≤ 7)))) := Lib.hid rfl
  have HD : Hid (deepB u = (decide (0 ≤ u.back) && decide (u.back < u.front) && decide (u.front ≤ 8))) := Lib.hid rfl
  clear hB h
  generalize valU u = r at *
  generalize namedB u = nm at *
  generalize madeB u = md at *
  generalize deepB u = dp at *
  generalize valB u.shape = vb at *
  unfold uo at HU HB
  unfold uv
  obtain ⟨i, k, m, sh, b, f⟩ := u
  dsimp only at *
  obtain ⟨W, hW⟩ : ∃ W, W = w.alloc (.cells #[.int .i64 i, .int .i64 k, .int .i64 m, s, .int .i64 b, .int .i64 f] 27) := ⟨_, rfl⟩
  obtain ⟨bx, hbx⟩ : ∃ bx, bx = w.heap.size := ⟨_, rfl⟩
  go_enter Tryd.func17, Tryd.ntmps17
  go_upto_region 1 with fail
  rw [← hW, ← hbx]
  rw [← hW] at HU HB
  rw [← hbx] at HU
  clear hW hbx
  obtain ⟨c0, c1, c2, c3, c4, c5⟩ := HU.out
  dsimp only at c0 c1 c2 c3 c4 c5
  go_cut [3] (fun sx wx => sx = .bool nm ∧ wx = W)
  case first =>
    by_cases h1 : 0 ≤ i
    · have e : nm = decide (i ≤ 99) := by rw [HN.out, decide_eq_true h1, Bool.true_and]
      go_wp2_with fail
      go_meet
      case rel => exact ⟨by rw [e], rfl⟩
    · have e : nm = false := by rw [HN.out, decide_eq_false h1, Bool.false_and]
      have hd : decide (0 ≤ i) = false := decide_eq_false h1
      go_wp2_with fail
      go_meet
      case rel => exact ⟨by rw [e], rfl⟩
  case rest =>
    obtain ⟨rfl, rfl⟩ := hcut
    go_upto_region 2 with fail
    go_cut [4] (fun sx wx => sx = .bool md ∧ wx = wc)
    case first =>
      by_cases h1 : 1 ≤ k
      · by_cases h2 : k ≤ 8
        · have e : md = (decide (0 ≤ m) && decide (m ≤ 7)) := by rw [HM.out, decide_eq_true h1, decide_eq_true h2]; rfl
          go_wp2_with fail
          refine (isMaterial_w _ _).mono ?_
          rintro e' w1 ⟨rfl, rfl⟩
          go_wp2_with fail
          go_meet
          case rel => exact ⟨by rw [e], rfl⟩
        · have e : md = false := by rw [HM.out, decide_eq_true h1, decide_eq_false h2]; rfl
          have hd : decide (k ≤ 8) = false := decide_eq_false h2
          go_wp2_with fail
          go_meet
          case rel => exact ⟨by rw [e], rfl⟩
      · have e : md = false := by rw [HM.out, decide_eq_false h1]; rfl
        have hd : decide (1 ≤ k) = false := decide_eq_false h1
        go_wp2_with fail
        go_meet
        case rel => exact ⟨by rw [e], rfl⟩
    case rest =>
      obtain ⟨rfl, rfl⟩ := hcut
      go_upto_region 3 with fail
      go_cut [5] (fun sx wx => sx = .bool dp ∧ wx = wc)
      case first =>
        by_cases h1 : 0 ≤ b
        · by_cases h2 : b < f
          · have e : dp = decide (f ≤ 8) := by rw [HD.out, decide_eq_true h1, decide_eq_true h2]; rfl
            go_wp2_with fail
            go_meet
            case rel => exact ⟨by rw [e], rfl⟩
          · have e : dp = false := by rw [HD.out, decide_eq_true h1, decide_eq_false h2]; rfl
            have hd : decide (b < f) = false := decide_eq_false h2
            go_wp2_with fail
            go_meet
            case rel => exact ⟨by rw [e], rfl⟩
        · have e : dp = false := by rw [HD.out, decide_eq_false h1]; rfl
          have hd : decide (0 ≤ b) = false := decide_eq_false h1
          go_wp2_with fail
          go_meet
          case rel => exact ⟨by rw [e], rfl⟩
      case rest =>
        obtain ⟨rfl, rfl⟩ := hcut
        rcases nm with _ | _
        · go_wp2_with fail
          go_ret
          exact ⟨by rw [HE.out]; rfl, HB.out⟩
        · rcases md with _ | _
          · go_wp2_with fail
            go_ret
            exact ⟨by rw [HE.out]; rfl, HB.out⟩
          · rcases dp with _ | _
            · go_wp2_with fail
              go_ret
              exact ⟨by rw [HE.out]; rfl, HB.out⟩
            · go_wp2_with fail
              refine (HV.out _ HB.out).mono ?_
              rintro e w1 ⟨rfl, hB1⟩
              have HB1 := Lib.hid (belowStep HB.out hB1)
              clear hB1
              go_wp2_with fail
              go_ret
              exact ⟨by rw [HE.out]; rfl, HB1.out⟩
end Go.Proofs.YtcamncipkofgkaaDoor
/- PlnSide: The contracts of Side and Overlap. -/
namespace Go.Proofs.YtcamncipkofgkaaDoor
open Go.RowKit Go.Shelf Pln

/-- What Side returns. -/
def sideV : Option (Nat × Nat) → Value
  | some (n, i) => .tuple #[.int .i64 n, .int .i64 i, .bool true]
  | none => .tuple #[.int .i64 0, .int .i64 0, .bool false]
theorem side_no_l {a b : List Pt} (h : valB a = false) : sideP a b = none := by unfold sideP; rw [if_neg (by rw [h]; simp)]
theorem side_no_r {a b : List Pt} (h : valB b = false) : sideP a b = none := by unfold sideP; rw [if_neg (by rw [h]; simp)]
theorem side_yes {a b : List Pt} (h1 : valB a = true) (h2 : valB b = true) : sideP a b = match sep a b with
    | some i => some (0, i)
    | none => match sep b a with
      | some i => some (1, i)
      | none => none := by
  unfold sideP; rw [if_pos ⟨h1, h2⟩]
  rcases sep a b with _ | i
  · rcases sep b a with _ | i <;> rfl
  · rfl
set_option maxHeartbeats 2000000 in
theorem side_w (a b : List Pt) (ha : Len a) (hb : Len b) (va vb : Value) (w : World) (hva : PtsAt w va a) (hvb : PtsAt w vb b) :
    Calls Tryd.prog 83 #[va, vb] w fun e w' => e = .returned (sideV (sideP a b)) ∧ Below w.heap.size w w' := by
  have HA := Lib.hid (valid_w a ha va w hva)
  have HB := Lib.hid (fun w1 (h : Below w.heap.size w w1) => valid_w b hb vb w1 (hvb.via h))
  rcases h1 : valB a with _ | _
  · have HR := Lib.hid (side_no_l (b := b) h1)
    rw [h1] at HA
    clear h1
    go_enter Tryd.func83, Tryd.ntmps83
    go_wp2_with (go_at_call 48; (with_reducible refine HA.out.mono ?_); rintro e u3 ⟨rfl, hB3⟩)
    go_ret3
    exact ⟨by rw [HR.out]; rfl, hB3⟩
  · rcases h2 : valB b with _ | _
    · have HR := Lib.hid (side_no_r (a := a) h2)
      rw [h1] at HA
      rw [h2] at HB
      clear h1 h2
      go_enter Tryd.func83, Tryd.ntmps83
      go_wp2_with fail
      refine HA.out.mono ?_
      rintro e u3 ⟨rfl, hB3⟩
      go_wp2_with fail
      refine (HB.out _ hB3).mono ?_
      rintro e u4 ⟨rfl, hB4⟩
      go_wp2_with fail
      go_ret3
      exact ⟨by rw [HR.out]; rfl, belowStep hB3 hB4⟩
    · have v1 := (valB_iff a).1 h1
      have v2 := (valB_iff b).1 h2
      have HS1 := Lib.hid (fun w1 (h : Below w.heap.size w w1) => separating_w a b va vb w1 (hva.via h) (hvb.via h) (by have := v1.hi; omega) (by have := v2.hi; omega) (val_smls v1) (val_smls v2))
      have HS2 := Lib.hid (fun w1 (h : Below w.heap.size w w1) => separating_w b a vb va w1 (hvb.via h) (hva.via h) (by have := v2.hi; omega) (by have := v1.hi; omega) (val_smls v2) (val_smls v1))
      have HR := Lib.hid (side_yes h1 h2)
      rw [h1] at HA
      rw [h2] at HB
      clear h1 h2 v1 v2 hva hvb
      rcases e1 : sep a b with _ | i
      · rw [e1] at HS1 HR
        clear e1
        rcases e2 : sep b a with _ | i
        · rw [e2] at HS2 HR
          clear e2
          simp only [sepV] at HS1 HS2
          go_enter Tryd.func83, Tryd.ntmps83
          go_wp2_with fail
          refine HA.out.mono ?_
          rintro e u3 ⟨rfl, hB3⟩
          go_wp2_with fail
          refine (HB.out _ hB3).mono ?_
          rintro e u4 ⟨rfl, hB4⟩
          have hB4 := belowStep hB3 hB4
          go_wp2_with fail
          refine (HS1.out _ hB4).mono ?_
          rintro e u5 ⟨rfl, hB5⟩
          have hB5 := belowStep hB4 hB5
          go_wp2_with fail
          refine (HS2.out _ hB5).mono ?_
          rintro e u6 ⟨rfl, hB6⟩
          have hB6 := belowStep hB5 hB6
          go_wp2_with fail
          go_ret3
          exact ⟨by rw [HR.out]; rfl, hB6⟩
        · rw [e2] at HS2 HR
          clear e2
          simp only [sepV] at HS1 HS2
          go_enter Tryd.func83, Tryd.ntmps83
          go_wp2_with fail
          refine HA.out.mono ?_
          rintro e u3 ⟨rfl, hB3⟩
          go_wp2_with fail
          refine (HB.out _ hB3).mono ?_
          rintro e u4 ⟨rfl, hB4⟩
          have hB4 := belowStep hB3 hB4
          go_wp2_with fail
          refine (HS1.out _ hB4).mono ?_
          rintro e u5 ⟨rfl, hB5⟩
          have hB5 := belowStep hB4 hB5
          go_wp2_with fail
          refine (HS2.out _ hB5).mono ?_
          rintro e u6 ⟨rfl, hB6⟩
          have hB6 := belowStep hB5 hB6
          go_wp2_with fail
          go_ret3
          exact ⟨by rw [HR.out]; rfl, hB6⟩
      · rw [e1] at HS1 HR
        clear e1
        simp only [sepV] at HS1
        go_enter Tryd.func83, Tryd.ntmps83
        go_wp2_with fail
        refine HA.out.mono ?_
        rintro e u3 ⟨rfl, hB3⟩
        go_wp2_with fail
        refine (HB.out _ hB3).mono ?_
        rintro e u4 ⟨rfl, hB4⟩
        have hB4 := belowStep hB3 hB4
        go_wp2_with fail
        refine (HS1.out _ hB4).mono ?_
        rintro e u5 ⟨rfl, hB5⟩
        have hB5 := belowStep hB4 hB5
        go_wp2_with fail
        go_ret3
        exact ⟨by rw [HR.out]; rfl, hB5⟩
set_option maxHeartbeats 2000000 in
theorem overlap_w (a b : List Pt) (ha : Len a) (hb : Len b) (va vb : Value) (w : World) (hva : PtsAt w va a) (hvb : PtsAt w vb b) :
    Calls Tryd.prog 59 #[va, vb] w fun e w' => e = .returned (.bool (overP a b)) ∧ Below w.heap.size w w' := by
  have HS := Lib.hid (side_w a b ha hb va vb w hva hvb)
  have HA := Lib.hid (fun w1 (h : Below w.heap.size w w1) => valid_w a ha va w1 (hva.via h))
  have HB := Lib.hid (fun w1 (h : Below w.heap.size w w1) => valid_w b hb vb w1 (hvb.via h))
  have HO : Hid (overP a b = (valB a && valB b && (sideP a b).isNone)) := Lib.hid rfl
  clear hva hvb
  rcases hs : sideP a b with _ | ⟨n, i⟩
  · rw [hs] at HS HO
    simp only [sideV] at HS
    clear hs
    rcases h1 : valB a with _ | _
    · rw [h1] at HA HO
      clear h1
      go_enter Tryd.func59, Tryd.ntmps59
      go_wp2_with fail
      refine HS.out.mono ?_
      rintro e u3 ⟨rfl, hB3⟩
      go_wp2_with fail
      refine (HA.out _ hB3).mono ?_
      rintro e u4 ⟨rfl, hB4⟩
      have hB4 := belowStep hB3 hB4
      go_wp2_with fail
      go_ret
      exact ⟨by rw [HO.out]; rfl, hB4⟩
    · rw [h1] at HA HO
      clear h1
      go_enter Tryd.func59, Tryd.ntmps59
      go_wp2_with fail
      refine HS.out.mono ?_
      rintro e u3 ⟨rfl, hB3⟩
      go_wp2_with fail
      refine (HA.out _ hB3).mono ?_
      rintro e u4 ⟨rfl, hB4⟩
      have hB4 := belowStep hB3 hB4
      go_wp2_with fail
      refine (HB.out _ hB4).mono ?_
      rintro e u5 ⟨rfl, hB5⟩
      have hB5 := belowStep hB4 hB5
      go_wp2_with fail
      go_ret
      exact ⟨by rw [HO.out]; cases valB b <;> rfl, hB5⟩
  · rw [hs] at HS HO
    simp only [sideV] at HS
    clear hs
    go_enter Tryd.func59, Tryd.ntmps59
    go_wp2_with fail
    refine HS.out.mono ?_
    rintro e u3 ⟨rfl, hB3⟩
    go_wp2_with fail
    go_ret
    exact ⟨by rw [HO.out]; simp, hB3⟩
end Go.Proofs.YtcamncipkofgkaaDoor
/- PlnSeam: The contracts of directed and of what Seam strikes. -/
namespace Go.Proofs.YtcamncipkofgkaaDoor
open Go.RowKit Go.Shelf Pln

/-- A seam as a value. -/
def sv (s : Pt × Pt) : Value := .agg #[.int .i64 s.1.1, .int .i64 s.1.2, .int .i64 s.2.1, .int .i64 s.2.2]
/-- What Seam strikes. -/
def offP (a b : List Pt) (c : Pt) : Bool := decide (posP a c < 0) || decide (posP b c < 0)
theorem off_not (a b : List Pt) (c : Pt) : (!offP a b c) = (decide (0 ≤ posP a c) && decide (0 ≤ posP b c)) := by
  unfold offP
  rw [Bool.eq_iff_iff]
  simp
theorem com_off (a b : List Pt) : comP a b = (a ++ b).filter fun c => !offP a b c := by
  unfold comP; congr 1; funext c; exact (off_not a b c).symm
set_option maxHeartbeats 2000000 in
theorem off_w (a b : List Pt) (ha : Val a) (hb : Val b) (c : Pt) (hc : Sml c) (va vb : Value) (B1 B2 : Nat) (w : World) (h1 : w.cell? ⟨B1, 0, none⟩ = some va) (h2 : w.cell? ⟨B2, 0, none⟩ = some vb) (hva : PtsAt w va a) (hvb : PtsAt w vb b) :
    Calls Tryd.prog 86 #[pv c, .pointer (some ⟨B1, 0, none⟩), .pointer (some ⟨B2, 0, none⟩)] w fun e w' => e = .returned (.bool (offP a b c)) ∧ Below w.heap.size w w' := by
  have HP1 := Lib.hid (fun w1 (hB : Below w.heap.size w w1) => position_w a c va w1 (hva.via hB) (by have := ha.hi; omega) (val_smls ha) hc)
  have HP2 := Lib.hid (fun w1 (hB : Below w.heap.size w w1) => position_w b c vb w1 (hvb.via hB) (by have := hb.hi; omega) (val_smls hb) hc)
  have hO : offP a b c = (decide (posP a c < 0) || decide (posP b c < 0)) := rfl
  unfold pv at HP1 HP2 ⊢
  have hB0 := alloc_below w (.cells #[.int .i64 c.1, .int .i64 c.2] 38)
  have k1 := keptBelow hB0 h1
  have k2 := keptBelow hB0 h2
  have HB0 := Lib.hid hB0
  have HK2 := Lib.hid k2
  have HO := Lib.hid hO
  generalize posP a c = x at *
  generalize posP b c = y at *
  obtain ⟨c1, c2⟩ := c
  dsimp only at HP1 HP2 HB0 HK2 k1
  clear hB0 k2 h1 h2 hva hvb hO
  by_cases hx : x < 0
  · have HR : Hid (offP a b (c1, c2) = true) := Lib.hid (by rw [HO.out, decide_eq_true hx]; rfl)
    go_enter Tryd.func86, Tryd.ntmps86
    go_wp2_with fail
    refine (HP1.out _ HB0.out).mono ?_
    rintro e u3 ⟨rfl, hB3⟩
    go_wp2_with fail
    go_ret
    exact ⟨ret_bool HR.out.symm, belowStep HB0.out hB3⟩
  · have hx' : decide (x < 0) = false := decide_eq_false hx
    have HR : Hid (offP a b (c1, c2) = decide (y < 0)) := Lib.hid (by rw [HO.out, hx', Bool.false_or])
    go_enter Tryd.func86, Tryd.ntmps86
    go_wp2_with fail
    refine (HP1.out _ HB0.out).mono ?_
    rintro e u3 ⟨rfl, hB3⟩
    have k2 := keptBelow hB3 HK2.out
    have c0 := keptBelow hB3 (cell_rowN w #[.int .i64 c1, .int .i64 c2] 38 0 rfl)
    have c1' := keptBelow hB3 (cell_rowN w #[.int .i64 c1, .int .i64 c2] 38 1 rfl)
    have hB3 := belowStep HB0.out hB3
    go_wp2_with fail
    refine (HP2.out _ hB3).mono ?_
    rintro e u4 ⟨rfl, hB4⟩
    go_wp2_with fail
    go_ret
    exact ⟨ret_bool HR.out.symm, belowStep hB3 hB4⟩
set_option maxHeartbeats 2000000 in
theorem directed_w (s e : Pt) (l : List Pt) (hs : Sml s) (he : Sml e) (hl : l.length ≤ 100) (hm : Smls l) (v : Value) (w : World) (hv : PtsAt w v l) :
    Calls Tryd.prog 87 #[ev s e, v] w fun en w' => en = .returned (sv (dirP s e l)) ∧ Below w.heap.size w w' := by
  have HF := Lib.hid (fun w => leftOf_w s e w)
  have HC := Lib.hid (fun w1 (hB : Below w.heap.size w w1) B (hE : EdgeIn w1 B s e) => contains_w l (by omega) (fun k => decide (0 < turn s e (vx l k))) 101 #[.pointer (some ⟨B, 0, none⟩)] (enters_of Tryd.func101 (by kernel_rfl) rfl) v w1 (hv.via hB)
    (fun k hk w2 hB2 => left1_w s e (vx l k) B hs he (hm k hk) w2 (hE.via hB2)))
  rw [any_left] at HC
  have hD : dirP s e l = if (l.any fun c => decide (0 < turn s e c)) = true then (s, e) else (e, s) := by unfold dirP; rfl
  generalize (l.any fun c => decide (0 < turn s e c)) = tb at *
  have HD := Lib.hid hD
  clear hD hv
  unfold ev at HF ⊢
  obtain ⟨s1, s2⟩ := s
  obtain ⟨e1, e2⟩ := e
  dsimp only at HF HC HD ⊢
  have hb0 := ((Below.refl _ w).alloc (Nat.le_refl _) (.cells #[.int .i64 s1, .int .i64 s2, .int .i64 e1, .int .i64 e2] 113)).alloc (by simp) (.cells #[.int .i64 0, .int .i64 0, .int .i64 0, .int .i64 0] 40)
  have HB0 := Lib.hid hb0
  clear hb0
  have cc : ∀ i x, (#[Value.int .i64 s1, .int .i64 s2, .int .i64 e1, .int .i64 e2] : Array Value)[i]? = some x → ((w.alloc (.cells #[.int .i64 s1, .int .i64 s2, .int .i64 e1, .int .i64 e2] 113)).alloc (.cells #[.int .i64 0, .int .i64 0, .int .i64 0, .int .i64 0] 40)).cell? ⟨w.heap.size, i, none⟩ = some x := fun i x h => cellA _ (cell_rowN w _ _ i h)
  have zz : ∀ i x, (#[Value.int .i64 0, .int .i64 0, .int .i64 0, .int .i64 0] : Array Value)[i]? = some x → ((w.alloc (.cells #[.int .i64 s1, .int .i64 s2, .int .i64 e1, .int .i64 e2] 113)).alloc (.cells #[.int .i64 0, .int .i64 0, .int .i64 0, .int .i64 0] 40)).cell? ⟨w.heap.size + 1, i, none⟩ = some x := fun i x h => by
    have := cell_rowN (w.alloc (.cells #[.int .i64 s1, .int .i64 s2, .int .i64 e1, .int .i64 e2] 113)) #[Value.int .i64 0, .int .i64 0, .int .i64 0, .int .i64 0] 40 i h
    rwa [World.size_alloc] at this
  have zf : ∀ i, ((w.alloc (.cells #[.int .i64 s1, .int .i64 s2, .int .i64 e1, .int .i64 e2] 113)).alloc (.cells #[.int .i64 0, .int .i64 0, .int .i64 0, .int .i64 0] 40)).frozen? ⟨w.heap.size + 1, i, none⟩ = false := fun i => by
    have h := heap_alloc_new (w.alloc (.cells #[.int .i64 s1, .int .i64 s2, .int .i64 e1, .int .i64 e2] 113)) (.cells #[.int .i64 0, .int .i64 0, .int .i64 0, .int .i64 0] 40)
    rw [World.size_alloc] at h
    exact frozen_of_row _ _ i _ _ h
  have HCC := Lib.hid cc
  have HZZ := Lib.hid zz
  have HZF := Lib.hid zf
  clear cc zz zf
  go_enter Tryd.func87, Tryd.ntmps87
  go_wp2_with fail
  refine (HF.out _).mono ?_
  rintro en w3 ⟨rfl, h3⟩
  have hE := EdgeIn.new ((w.alloc (.cells #[.int .i64 s1, .int .i64 s2, .int .i64 e1, .int .i64 e2] 113)).alloc (.cells #[.int .i64 0, .int .i64 0, .int .i64 0, .int .i64 0] 40)) (s1, s2) (e1, e2)
  rw [← h3, World.size_alloc, World.size_alloc] at hE
  have hb3 := alloc_below ((w.alloc (.cells #[.int .i64 s1, .int .i64 s2, .int .i64 e1, .int .i64 e2] 113)).alloc (.cells #[.int .i64 0, .int .i64 0, .int .i64 0, .int .i64 0] 40)) (.cells #[.int .i64 s1, .int .i64 s2, .int .i64 e1, .int .i64 e2] 113)
  rw [← h3] at hb3
  have HC2 := Lib.hid (HC.out _ (belowStep HB0.out hb3) _ hE)
  have HB3 := Lib.hid hb3
  clear hE hb3 h3
  go_wp2_with fail
  refine HC2.out.mono ?_
  rintro en w5 ⟨rfl, hB5⟩
  have hb5 := belowStep HB3.out hB5
  have q0 := keptBelow hb5 (HCC.out 0 _ rfl)
  have q1 := keptBelow hb5 (HCC.out 1 _ rfl)
  have q2 := keptBelow hb5 (HCC.out 2 _ rfl)
  have q3 := keptBelow hb5 (HCC.out 3 _ rfl)
  have z0 := keptBelow hb5 (HZZ.out 0 _ rfl)
  have z1 := keptBelow hb5 (HZZ.out 1 _ rfl)
  have z2 := keptBelow hb5 (HZZ.out 2 _ rfl)
  have z3 := keptBelow hb5 (HZZ.out 3 _ rfl)
  have f0 := frozenBelow hb5 (HZZ.out 0 _ rfl) (HZF.out 0)
  have f1 := frozenBelow hb5 (HZZ.out 1 _ rfl) (HZF.out 1)
  have f2 := frozenBelow hb5 (HZZ.out 2 _ rfl) (HZF.out 2)
  have f3 := frozenBelow hb5 (HZZ.out 3 _ rfl) (HZF.out 3)
  have HB5 := Lib.hid (belowStep HB0.out hb5)
  clear hB5 hb5
  cases tb with
  | true =>
    go_wp2_with fail
    refine bodyPost_ret (v := .agg #[.int .i64 s1, .int .i64 s2, .int .i64 e1, .int .i64 e2]) (by simp [results, Tryd.results87, go_sem, z0, z1, z2, z3]) rfl ⟨by rw [HD.out]; rfl, ?_⟩
    exact (((HB5.out.setCell (p := ⟨w.heap.size + 1, 0, none⟩) (by simp) _).setCell (p := ⟨w.heap.size + 1, 1, none⟩) (by simp) _).setCell (p := ⟨w.heap.size + 1, 2, none⟩) (by simp) _).setCell (p := ⟨w.heap.size + 1, 3, none⟩) (by simp) _
  | false =>
    go_wp2_with fail
    refine bodyPost_ret (v := .agg #[.int .i64 e1, .int .i64 e2, .int .i64 s1, .int .i64 s2]) (by simp [results, Tryd.results87, go_sem, z0, z1, z2, z3]) rfl ⟨by rw [HD.out]; rfl, ?_⟩
    exact (((HB5.out.setCell (p := ⟨w.heap.size + 1, 0, none⟩) (by simp) _).setCell (p := ⟨w.heap.size + 1, 1, none⟩) (by simp) _).setCell (p := ⟨w.heap.size + 1, 2, none⟩) (by simp) _).setCell (p := ⟨w.heap.size + 1, 3, none⟩) (by simp) _
end Go.Proofs.YtcamncipkofgkaaDoor
/- PlnSeamW: The contract of Seam. -/
namespace Go.Proofs.YtcamncipkofgkaaDoor
open Go.RowKit Go.Shelf Pln

/-- What Seam returns. -/
def seamV : Option (Pt × Pt) → Value
  | some s => .tuple #[sv s, .bool true]
  | none => .tuple #[sv ((0, 0), (0, 0)), .bool false]
theorem seam_off {a b : List Pt} (h : sideP a b = none) : seamP a b = none := by unfold seamP; rw [h]; rfl
theorem seam_all {a b : List Pt} (h : ∀ j, j < (comP a b).length → vx (comP a b) j = vx (comP a b) 0) : seamP a b = none := by
  unfold seamP
  split
  · rcases e : comP a b with _ | ⟨f, r⟩
    · rfl
    · rw [e] at h
      have : (f :: r).find? (fun c => decide (f ≠ c)) = none := by
        rw [List.find?_eq_none]
        intro x hx
        obtain ⟨j, hj, rfl⟩ := mem_vx hx
        rw [h j hj]
        have : vx (f :: r) 0 = f := rfl
        rw [this]; simp
      simp only [this]
  · rfl
theorem seam_at {a b : List Pt} (hs : (sideP a b).isSome = true) {k : Nat} (hk : k < (comP a b).length) (hne : vx (comP a b) 0 ≠ vx (comP a b) k) (h : ∀ j, j < k → vx (comP a b) j = vx (comP a b) 0) : seamP a b = some (dirP (vx (comP a b) 0) (vx (comP a b) k) a) := by
  unfold seamP
  rw [if_pos hs]
  rcases e : comP a b with _ | ⟨f, r⟩
  · rw [e] at hk; simp at hk
  · rw [e] at hk hne h
    have e0 : vx (f :: r) 0 = f := rfl
    rw [e0] at hne h ⊢
    have : (f :: r).find? (fun c => decide (f ≠ c)) = some (vx (f :: r) k) := by
      rw [List.find?_eq_some_iff_getElem]
      refine ⟨by simpa using hne, k, hk, (vx_eq hk).symm, fun j hj => ?_⟩
      have := h j hj
      rw [vx_eq (by omega)] at this
      rw [this]; simp
    simp only [this]
theorem seam_end {w W : World} {x0 x1 x2 x3 : Int} {y : Bool} {tm : Array Value} {o : Option (Pt × Pt)} (hz : W.heap[w.heap.size + 1 + 1]? = some (.cells #[.int .i64 0, .int .i64 0, .int .i64 0, .int .i64 0] 40 (0, 0))) (hB : Below w.heap.size w W) (ho : seamV o = .tuple #[.agg #[.int .i64 x0, .int .i64 x1, .int .i64 x2, .int .i64 x3], .bool y])
    (h4 : tm[4]?.getD undef = .pointer (some ⟨w.heap.size + 1 + 1, 0, none⟩) := by rfl) (h5 : tm[5]?.getD undef = .bool y := by rfl) :
    bodyPost Tryd.prog Tryd.f56 (fun e w' => e = .returned (seamV o) ∧ Below w.heap.size w w') .ret { tmps := tm, defers := [] }
      ((((W.setCell ⟨w.heap.size + 1 + 1, 0, none⟩ (.int .i64 x0)).setCell ⟨w.heap.size + 1 + 1, 1, none⟩ (.int .i64 x1)).setCell ⟨w.heap.size + 1 + 1, 2, none⟩ (.int .i64 x2)).setCell ⟨w.heap.size + 1 + 1, 3, none⟩ (.int .i64 x3)) := by
  have z0 := cell_heap hz (i := 0) rfl
  have z1 := cell_heap hz (i := 1) rfl
  have z2 := cell_heap hz (i := 2) rfl
  have z3 := cell_heap hz (i := 3) rfl
  refine bodyPost_ret (v := .tuple #[.agg #[.int .i64 x0, .int .i64 x1, .int .i64 x2, .int .i64 x3], .bool y]) (by simp [results, Tryd.results56, go_sem, h4, h5, z0, z1, z2, z3]) rfl ⟨by rw [ho], ?_⟩
  exact (((hB.setCell (p := ⟨w.heap.size + 1 + 1, 0, none⟩) (by simp; omega) _).setCell (p := ⟨w.heap.size + 1 + 1, 1, none⟩) (by simp; omega) _).setCell (p := ⟨w.heap.size + 1 + 1, 2, none⟩) (by simp; omega) _).setCell (p := ⟨w.heap.size + 1 + 1, 3, none⟩) (by simp; omega) _
set_option maxRecDepth 100000 in
set_option maxHeartbeats 4000000 in
theorem seam_w (a b : List Pt) (ha : Len a) (hb : Len b) (va vb : Value) (w : World) (hva : PtsAt w va a) (hvb : PtsAt w vb b) :
    Calls Tryd.prog 56 #[va, vb] w fun e w' => e = .returned (seamV (seamP a b)) ∧ Below w.heap.size w w' := by
  have HS := Lib.hid (fun w1 (h : Below w.heap.size w w1) => side_w a b ha hb va vb w1 (hva.via h) (hvb.via h))
  have hb0 := (((Below.refl _ w).alloc (Nat.le_refl _) (.cells #[va] 25)).alloc (by simp) (.cells #[vb] 25)).alloc (by simp; omega) (.cells #[.int .i64 0, .int .i64 0, .int .i64 0, .int .i64 0] 40)
  have k0 : (((w.alloc (.cells #[va] 25)).alloc (.cells #[vb] 25)).alloc (.cells #[.int .i64 0, .int .i64 0, .int .i64 0, .int .i64 0] 40)).cell? ⟨w.heap.size, 0, none⟩ = some va := cellA _ (cellA _ (cell_rowN w _ _ 0 rfl))
  have k1 : (((w.alloc (.cells #[va] 25)).alloc (.cells #[vb] 25)).alloc (.cells #[.int .i64 0, .int .i64 0, .int .i64 0, .int .i64 0] 40)).cell? ⟨w.heap.size + 1, 0, none⟩ = some vb := by
    have := cell_rowN (w.alloc (.cells #[va] 25)) #[vb] 25 0 rfl
    rw [World.size_alloc] at this
    exact cellA _ this
  have zb : (((w.alloc (.cells #[va] 25)).alloc (.cells #[vb] 25)).alloc (.cells #[.int .i64 0, .int .i64 0, .int .i64 0, .int .i64 0] 40)).heap[w.heap.size + 1 + 1]? = some (.cells #[.int .i64 0, .int .i64 0, .int .i64 0, .int .i64 0] 40 (0, 0)) := by
    have := heap_alloc_new ((w.alloc (.cells #[va] 25)).alloc (.cells #[vb] 25)) (.cells #[.int .i64 0, .int .i64 0, .int .i64 0, .int .i64 0] 40)
    rwa [World.size_alloc, World.size_alloc] at this
  have HB0 := Lib.hid hb0
  have HK0 := Lib.hid k0
  have HK1 := Lib.hid k1
  have HZ := Lib.hid zb
  obtain ⟨⟨aa, ca, rfl, _, _, _⟩, _⟩ := id hva
  obtain ⟨⟨ab, cb, rfl, _, _, _⟩, _⟩ := id hvb
  have HVA := Lib.hid hva
  have HVB := Lib.hid hvb
  obtain ⟨na, hna⟩ : ∃ na, na = a.length := ⟨_, rfl⟩
  obtain ⟨nb, hnb⟩ : ∃ nb, nb = b.length := ⟨_, rfl⟩
  rw [← hna] at HS HVA HK0 HK1 HZ HB0 ⊢
  rw [← hnb] at HS HVB HK0 HK1 HZ HB0 ⊢
  clear hb0 k0 k1 zb hva hvb
  rcases hs : sideP a b with _ | ⟨n, i⟩
  · have HR := Lib.hid (seam_off hs)
    rw [hs] at HS
    simp only [sideV] at HS
    clear hs hna hnb
    go_enter Tryd.func56, Tryd.ntmps56
    go_wp2_with fail
    refine (HS.out _ HB0.out).mono ?_
    rintro e w3 ⟨rfl, hB3⟩
    have hz := heap_below hB3 HZ.out
    have z0 := cell_heap hz (i := 0) rfl
    have z1 := cell_heap hz (i := 1) rfl
    have z2 := cell_heap hz (i := 2) rfl
    have z3 := cell_heap hz (i := 3) rfl
    have f0 := frozen_of_row _ _ 0 _ _ hz
    have f1 := frozen_of_row _ _ 1 _ _ hz
    have f2 := frozen_of_row _ _ 2 _ _ hz
    have f3 := frozen_of_row _ _ 3 _ _ hz
    have HBB := Lib.hid (belowStep HB0.out hB3)
    have HZ3 := Lib.hid hz
    clear hz hB3
    go_wp2_with fail
    exact seam_end HZ3.out HBB.out (by rw [HR.out]; rfl)
  · have hsome : (sideP a b).isSome = true := by rw [hs]; rfl
    have hval : valB a = true ∧ valB b = true := by
      rcases h1 : valB a with _ | _
      · rw [side_no_l h1] at hs; cases hs
      · rcases h2 : valB b with _ | _
        · rw [side_no_r h2] at hs; cases hs
        · exact ⟨rfl, rfl⟩
    have v1 := (valB_iff a).1 hval.1
    have v2 := (valB_iff b).1 hval.2
    rw [hs] at HS
    simp only [sideV] at HS
    have hon : ∀ q ∈ a ++ b, Sml q := fun q hq => by
      rcases List.mem_append.1 hq with h | h
      · obtain ⟨j, hj, rfl⟩ := mem_vx h; exact val_smls v1 j hj
      · obtain ⟨j, hj, rfl⟩ := mem_vx h; exact val_smls v2 j hj
    have hokc : PtsOk (a ++ b) := both_ok HVA.out.ok HVB.out.ok
    have HCC := Lib.hid (fun G w1 (hB : Below w.heap.size w w1) c0 c1 => concat_w a b (by have := v1.lo; omega) (by have := v2.lo; omega) (by have := v1.hi; omega) (by have := v2.hi; omega) _ _ G 2 w1 (HVA.out.via hB) (HVB.out.via hB) c0 c1)
    have HD := Lib.hid (fun (w1 : World) (hB : Below w.heap.size w w1) (c0 : w1.cell? ⟨w.heap.size, 0, none⟩ = some (.slice aa na ca)) (c1 : w1.cell? ⟨w.heap.size + 1, 0, none⟩ = some (.slice ab nb cb)) (r : Value) (w2 : World) (hB2 : Below w1.heap.size w1 w2) (hown : w2.ownsRow w1.heap.size 38 2 r (a ++ b).length (cellsP (a ++ b))) =>
      delete_w w1 (a ++ b) (by rw [List.length_append]; have := v1.hi; have := v2.hi; omega) (by rw [List.length_append]; have := v1.lo; omega) (offP a b) 86 #[.pointer (some ⟨w.heap.size, 0, none⟩), .pointer (some ⟨w.heap.size + 1, 0, none⟩)] (enters_of Tryd.func86 (by kernel_rfl) rfl) r w2 hB2 hown hokc
        (fun q hq w3 hB3 => off_w a b v1 v2 q (hon q hq) _ _ _ _ w3 (keptBelow hB3 c0) (keptBelow hB3 c1) (HVA.out.via (belowStep hB hB3)) (HVB.out.via (belowStep hB hB3))))
    rw [← com_off] at HD
    have hcm : ∀ q ∈ comP a b, Sml q := fun q hq => hon q (by unfold comP at hq; exact (List.mem_filter.1 hq).1)
    have HDR := Lib.hid (fun s e (hs : Sml s) (he : Sml e) w1 (hB : Below w.heap.size w w1) => directed_w s e a hs he (by have := v1.hi; omega) (val_smls v1) _ w1 (HVA.out.via hB))
    have HALL := Lib.hid (seam_all (a := a) (b := b))
    have HAT := Lib.hid (fun k => seam_at (a := a) (b := b) hsome (k := k))
    have HCM := Lib.hid hcm
    have hlc : (comP a b).length ≤ 16 := by
      have : (comP a b).length ≤ (a ++ b).length := List.length_filter_le _ _
      rw [List.length_append] at this; have := v1.hi; have := v2.hi; omega
    generalize comP a b = com at *
    clear hs hna hnb hval v1 v2 hon hokc hcm hsome
    go_enter Tryd.func56, Tryd.ntmps56
    go_wp2_with fail
    refine (HS.out _ HB0.out).mono ?_
    rintro e w3 ⟨rfl, hB3⟩
    have k0 := keptBelow hB3 HK0.out
    have k1 := keptBelow hB3 HK1.out
    have HZ3 := Lib.hid (heap_below hB3 HZ.out)
    have hB3 := belowStep HB0.out hB3
    have HK0' := Lib.hid k0
    have HK1' := Lib.hid k1
    have HB3 := Lib.hid hB3
    clear hB3
    go_wp2_with fail
    have hb4 := alloc_below w3 (.cells #[.slice aa na ca, .slice ab nb cb] 25)
    have hb4w := belowStep HB3.out hb4
    have HC4 := Lib.hid (HCC.out w3.heap.size _ hb4w (cell_rowN w3 _ _ 0 rfl) (cell_rowN w3 _ _ 1 rfl))
    have HD4 := Lib.hid (HD.out _ hb4w (keptBelow hb4 HK0'.out) (keptBelow hb4 HK1'.out))
    have HB4 := Lib.hid hb4
    clear hb4 hb4w k0 k1
    refine HC4.out.mono ?_
    rintro e w5 ⟨r, rfl, hown, hB5⟩
    have HD5 := Lib.hid (HD4.out r w5 hB5 hown)
    clear hown hB5
    go_wp2_with fail
    refine HD5.out.mono ?_
    rintro e w6 ⟨rc, rfl, hrc, hB6⟩
    have HB6 := Lib.hid (belowStep HB4.out hB6)
    obtain ⟨⟨ac, cc, rfl, _, _, _⟩, _⟩ := id hrc
    have HRC := Lib.hid hrc
    obtain ⟨nc, hnc⟩ : ∃ nc, nc = com.length := ⟨_, rfl⟩
    rw [← hnc] at HRC hlc HALL HAT ⊢
    have hlcb : (nc : Int) ≤ 16 := by omega
    have HNC := Lib.hid hnc
    clear hrc hB6 hnc
    have HK06 := Lib.hid (keptBelow HB6.out HK0'.out)
    have HZ6 := Lib.hid (heap_below HB6.out HZ3.out)
    have HBW := Lib.hid (belowStep HB3.out HB6.out)
    go_wp2_with fail
    go_loopw [31] (fun i wr => ∃ k : Nat, k ≤ nc ∧ i = .int .i64 k ∧ (∀ j, j < k → vx com j = vx com 0) ∧ Below w6.heap.size w6 wr) (fun i _ => nc - (intOf i).toNat)
    case atStart => exact ⟨0, by omega, rfl, fun j hj => by omega, Below.refl _ _⟩
    case round =>
      obtain ⟨k, hk, rfl, hj, hBr⟩ := hrel
      have HJ := Lib.hid hj
      clear hj
      have HBr := Lib.hid hBr
      have HZr := Lib.hid (heap_below hBr HZ6.out)
      have HBWr := Lib.hid (belowStep HBW.out hBr)
      by_cases hlt : k < nc
      · have hlt' : (k : Int) < nc := by omega
        have hkl : k < com.length := by rw [← HNC.out]; exact hlt
        have h0l : 0 < com.length := by omega
        have hv2 := HRC.out.via hBr
        obtain ⟨⟨a', c', he, _, _, hin⟩, _⟩ := hv2
        rw [← HNC.out] at he
        cases he
        obtain ⟨g', o, rfl, c0, c1⟩ := hin.get hkl
        obtain ⟨g'', o'', he, d0, d1⟩ := hin.get h0l
        cases he
        rw [Nat.zero_mul, Nat.add_zero] at d0 d1
        have k0 := keptBelow hBr HK06.out
        have hsc := HCM.out _ (vx_mem hkl)
        have hsf := HCM.out _ (vx_mem h0l)
        have hn0 : 0 < nc := by omega
        have HA2 := Lib.hid (HAT.out k hlt)
        have HJ2 : Hid (vx com k = vx com 0 → ∀ j, j < k + 1 → vx com j = vx com 0) := Lib.hid (fun h => snoc_all HJ.out h)
        have HDR2 := Lib.hid (fun w1 (hB : Below w.heap.size w w1) => HDR.out (vx com 0) (vx com k) hsf hsc w1 hB)
        clear hin hsc hsf hBr hkl h0l
        generalize vx com k = c at *
        generalize vx com 0 = f at *
        obtain ⟨c1', c2'⟩ := c
        obtain ⟨f1, f2⟩ := f
        dsimp only at c0 c1 d0 d1 HDR2 HA2 HJ2
        go_wp2_with fail
        have x0 : ((wr.alloc (.cells #[.int .i64 c1', .int .i64 c2'] 38)).drew).cell? ⟨wr.heap.size, 0, none⟩ = some (.int .i64 c1') := cell_rowN wr _ _ 0 rfl
        have x1 : ((wr.alloc (.cells #[.int .i64 c1', .int .i64 c2'] 38)).drew).cell? ⟨wr.heap.size, 1, none⟩ = some (.int .i64 c2') := cell_rowN wr _ _ 1 rfl
        have hBd : Below wr.heap.size wr ((wr.alloc (.cells #[.int .i64 c1', .int .i64 c2'] 38)).drew) := (alloc_below wr _).drew
        have d0 := keptBelow hBd d0
        have d1 := keptBelow hBd d1
        have k0 := keptBelow hBd k0
        refine (wpIn_wide (n := 5)).1 ?_
        refine wpIn_region_T (fun w' => Below ((wr.alloc (.cells #[.int .i64 c1', .int .i64 c2'] 38)).drew).heap.size ((wr.alloc (.cells #[.int .i64 c1', .int .i64 c2'] 38)).drew) w') 6 (by kernel_rfl) ?_
        generalize ((wr.alloc (.cells #[.int .i64 c1', .int .i64 c2'] 38)).drew) = wd at *
        refine wpT_tk 0 35 (v := ?_) (Below.refl _ _) rfl rfl (by rfl) (hy := fun w hw => ?_) (h := ?_)
        rotate_left
        · go_simp; with_reducible rfl
        try simp only [Act.put, List.setIfInBounds_toArray, List.set_cons_zero, List.set_cons_succ]
        refine wpT_tk 1 36 (v := ?_) (Below.refl _ _) rfl rfl (by rfl) (hy := fun w hw => ?_) (h := ?_)
        rotate_left
        · go_simp; with_reducible rfl
        try simp only [Act.put, List.setIfInBounds_toArray, List.set_cons_zero, List.set_cons_succ]
        refine wpT_tk 2 37 (v := ?_) (Below.refl _ _) rfl rfl (by rfl) (hy := fun w hw => ?_) (h := ?_)
        rotate_left
        · have d0 := keptBelow hw d0; have d1 := keptBelow hw d1; go_simp; with_reducible rfl
        try simp only [Act.put, List.setIfInBounds_toArray, List.set_cons_zero, List.set_cons_succ]
        refine wpT_tk 3 38 (v := ?_) (Below.refl _ _) rfl rfl (by rfl) (hy := fun w hw => ?_) (h := ?_)
        rotate_left
        · have x0 := keptBelow hw x0; have x1 := keptBelow hw x1; go_simp; with_reducible rfl
        try simp only [Act.put, List.setIfInBounds_toArray, List.set_cons_zero, List.set_cons_succ]
        refine wpT_tk 4 39 (v := ?_) (Below.refl _ _) rfl rfl (by rfl) (hy := fun w hw => ?_) (h := ?_)
        rotate_left
        · go_simp; with_reducible rfl
        try simp only [Act.put, List.setIfInBounds_toArray, List.set_cons_zero, List.set_cons_succ]
        refine wpT_one 5 rfl rfl (by kernel_rfl) ?_
        go_simp
        refine ⟨alloc_below _ _, ?_⟩
        refine wpT_one 6 rfl rfl (by kernel_rfl) ?_
        go_simp
        refine wpT_done (by kernel_rfl) ?_ _
        have HS5 := Lib.hid (belowStep hBd (alloc_below wd (.cells #[.int .i64 f1, .int .i64 f2, .int .i64 c1', .int .i64 c2'] 113)))
        have k0 := keptBelow (alloc_below wd (.cells #[.int .i64 f1, .int .i64 f2, .int .i64 c1', .int .i64 c2'] 113)) k0
        have HK0d := Lib.hid k0
        clear hBd d0 d1 x0 x1 c0 c1
        by_cases hf1 : f1 = c1'
        · subst hf1
          by_cases hf2 : f2 = c2'
          · subst hf2
            have HJ3 := Lib.hid (HJ2.out rfl)
            go_wp2_with fail
            go_roundw
            case rel => exact ⟨k + 1, by omega, by go_num, HJ3.out, belowStep HBr.out HS5.out⟩
            case measure => simp [intOf]; omega
          · have HR := Lib.hid (HA2.out (fun e => hf2 (congrArg Prod.snd e)) HJ.out)
            have HD6 := HDR2.out _ (belowStep HBWr.out HS5.out)
            generalize dirP _ _ a = dd at *
            obtain ⟨⟨p1, p2⟩, q1, q2⟩ := dd
            unfold ev sv at HD6
            dsimp only at HD6
            have HD7 := Lib.hid HD6
            clear HD6
            go_wp2_with fail
            refine HD7.out.mono ?_
            rintro e w9 ⟨rfl, hB9⟩
            have hb9 := belowStep HS5.out hB9
            have hz := heap_below hb9 HZr.out
            have HB9 := Lib.hid (belowStep HBWr.out hb9)
            have HZ9 := Lib.hid hz
            have z0 := cell_heap hz (i := 0) rfl
            have z1 := cell_heap hz (i := 1) rfl
            have z2 := cell_heap hz (i := 2) rfl
            have z3 := cell_heap hz (i := 3) rfl
            have f0 := frozen_of_row _ _ 0 _ _ hz
            have f1 := frozen_of_row _ _ 1 _ _ hz
            have f2 := frozen_of_row _ _ 2 _ _ hz
            have f3 := frozen_of_row _ _ 3 _ _ hz
            clear hz hB9 hb9
            go_wp2_with fail
            exact seam_end HZ9.out HB9.out (by rw [HR.out]; rfl)
        · have HR := Lib.hid (HA2.out (fun e => hf1 (congrArg Prod.fst e)) HJ.out)
          have HD6 := HDR2.out _ (belowStep HBWr.out HS5.out)
          generalize dirP _ _ a = dd at *
          obtain ⟨⟨p1, p2⟩, q1, q2⟩ := dd
          unfold ev sv at HD6
          dsimp only at HD6
          have HD7 := Lib.hid HD6
          clear HD6
          go_wp2_with fail
          refine HD7.out.mono ?_
          rintro e w9 ⟨rfl, hB9⟩
          have hb9 := belowStep HS5.out hB9
          have hz := heap_below hb9 HZr.out
          have HB9 := Lib.hid (belowStep HBWr.out hb9)
          have HZ9 := Lib.hid hz
          have z0 := cell_heap hz (i := 0) rfl
          have z1 := cell_heap hz (i := 1) rfl
          have z2 := cell_heap hz (i := 2) rfl
          have z3 := cell_heap hz (i := 3) rfl
          have f0 := frozen_of_row _ _ 0 _ _ hz
          have f1 := frozen_of_row _ _ 1 _ _ hz
          have f2 := frozen_of_row _ _ 2 _ _ hz
          have f3 := frozen_of_row _ _ 3 _ _ hz
          clear hz hB9 hb9
          go_wp2_with fail
          exact seam_end HZ9.out HB9.out (by rw [HR.out]; rfl)
      · obtain rfl : k = nc := by omega
        have HR := Lib.hid (HALL.out HJ.out)
        clear hBr
        have hz := HZr.out
        have z0 := cell_heap hz (i := 0) rfl
        have z1 := cell_heap hz (i := 1) rfl
        have z2 := cell_heap hz (i := 2) rfl
        have z3 := cell_heap hz (i := 3) rfl
        have f0 := frozen_of_row _ _ 0 _ _ hz
        have f1 := frozen_of_row _ _ 1 _ _ hz
        have f2 := frozen_of_row _ _ 2 _ _ hz
        have f3 := frozen_of_row _ _ 3 _ _ hz
        clear hz
        go_wp2_with fail
        exact seam_end HZr.out HBWr.out (by rw [HR.out]; rfl)
end Go.Proofs.YtcamncipkofgkaaDoor
/- UntCom: The contracts of common, Overlap and Touch. -/
namespace Unt
open Pln
def bckP (a b : U) : Int := max a.back b.back
def frtP (a b : U) : Int := min a.front b.front
def comU (a b : U) : Bool := valU a && valU b && decide (bckP a b < frtP a b)
end Unt
namespace Go.Proofs.YtcamncipkofgkaaDoor
open Go.RowKit Go.Shelf Pln Unt
def comV (a b : U) : Value := if comU a b = true then .tuple #[.int .i64 (bckP a b), .int .i64 (frtP a b), .bool true] else .tuple #[.int .i64 0, .int .i64 0, .bool false]
set_option maxRecDepth 100000 in
set_option maxHeartbeats 1000000 in
theorem common_w (u t : U) (s r : Value) (w : World) (h1 : UAt w s u) (h2 : UAt w r t) :
    Calls Tryd.prog 55 #[uv u s, uv t r] w fun e w' => e = .returned (comV u t) ∧ Below w.heap.size w w' := by
  have HV1 := Lib.hid (fun w1 (hB : Below w.heap.size w w1) => validU_w u s w1 (h1.via hB))
  have HV2 := Lib.hid (fun w1 (hB : Below w.heap.size w w1) => validU_w t r w1 (h2.via hB))
  have HE : Hid (comV u t = if (valU u && valU t && decide (bckP u t < frtP u t)) = true then .tuple #[.int .i64 (bckP u t), .int .i64 (frtP u t), .bool true] else .tuple #[.int .i64 0, .int .i64 0, .bool false]) := Lib.hid rfl
  have EB : Hid (bckP u t = max u.back t.back) := Lib.hid rfl
  have EF : Hid (frtP u t = min u.front t.front) := Lib.hid rfl
  clear h1 h2
  generalize comV u t = cv at *
  generalize bckP u t = bk at *
  generalize frtP u t = fr at *
  generalize valU u = v1 at *
  generalize valU t = v2 at *
  obtain ⟨W1, hW1⟩ : ∃ W1, W1 = w.alloc (uo u s) := ⟨_, rfl⟩
  obtain ⟨W, hW⟩ : ∃ W, W = W1.alloc (uo t r) := ⟨_, rfl⟩
  have hb1 : Below w.heap.size w W1 := by rw [hW1]; exact alloc_below w _
  have hb2 : Below W1.heap.size W1 W := by rw [hW]; exact alloc_below W1 _
  have HX := Lib.hid (show UBox W w.heap.size u s from (by rw [hW1]; exact UBox.new w u s : UBox W1 w.heap.size u s).via hb2)
  have HY := Lib.hid (show UBox W (w.heap.size + 1) t r from by have := UBox.new W1 t r; rw [← hW, hW1] at this; simpa using this)
  have HB := Lib.hid (belowStep hb1 hb2)
  unfold uo at hW1 hW
  unfold uv at *
  obtain ⟨i, k, m, sh, b, f⟩ := u
  obtain ⟨i', k', m', sh', b', f'⟩ := t
  dsimp only at *
  clear hb1 hb2
  go_enter Tryd.func55, Tryd.ntmps55
  go_upto_region 1 with fail
  rw [← hW1, ← hW]
  clear hW hW1
  obtain ⟨c0, c1, c2, c3, c4, c5⟩ := HX.out
  obtain ⟨d0, d1, d2, d3, d4, d5⟩ := HY.out
  dsimp only at c0 c1 c2 c3 c4 c5 d0 d1 d2 d3 d4 d5
  go_cut [7, 8] (fun s7 s8 wx => s7 = .int .i64 bk ∧ s8 = .int .i64 fr ∧ Below W.heap.size W wx)
  case first =>
    refine (wpIn_wide (n := 5)).1 ?_
    refine wpIn_region_T (fun w' => Below W.drew.heap.size W.drew w') 11 (by kernel_rfl) ?_
    have hd : Below W.heap.size W W.drew := (Below.refl _ _).drew
    generalize W.drew = wd at *
    have c4 := keptBelow hd c4
    have c5 := keptBelow hd c5
    have d4 := keptBelow hd d4
    have d5 := keptBelow hd d5
    refine wpT_tk 0 9 (v := ?_) (Below.refl _ _) rfl rfl (by rfl) (hy := fun w hw => ?_) (h := ?_)
    rotate_left
    · go_simp; with_reducible rfl
    try simp only [Act.put, List.setIfInBounds_toArray, List.set_cons_zero, List.set_cons_succ]
    refine wpT_tk 1 10 (v := ?_) (Below.refl _ _) rfl rfl (by rfl) (hy := fun w hw => ?_) (h := ?_)
    rotate_left
    · have c4 := keptBelow hw c4; go_simp; with_reducible rfl
    try simp only [Act.put, List.setIfInBounds_toArray, List.set_cons_zero, List.set_cons_succ]
    refine wpT_tk 2 11 (v := ?_) (Below.refl _ _) rfl rfl (by rfl) (hy := fun w hw => ?_) (h := ?_)
    rotate_left
    · go_simp; with_reducible rfl
    try simp only [Act.put, List.setIfInBounds_toArray, List.set_cons_zero, List.set_cons_succ]
    refine wpT_tk 3 12 (v := ?_) (Below.refl _ _) rfl rfl (by rfl) (hy := fun w hw => ?_) (h := ?_)
    rotate_left
    · have d4 := keptBelow hw d4; go_simp; with_reducible rfl
    try simp only [Act.put, List.setIfInBounds_toArray, List.set_cons_zero, List.set_cons_succ]
    refine wpT_tk 5 14 (v := ?_) (Below.refl _ _) rfl rfl (by rfl) (hy := fun w hw => ?_) (h := ?_)
    rotate_left
    · go_simp; with_reducible rfl
    try simp only [Act.put, List.setIfInBounds_toArray, List.set_cons_zero, List.set_cons_succ]
    refine wpT_tk 6 15 (v := ?_) (Below.refl _ _) rfl rfl (by rfl) (hy := fun w hw => ?_) (h := ?_)
    rotate_left
    · have c5 := keptBelow hw c5; go_simp; with_reducible rfl
    try simp only [Act.put, List.setIfInBounds_toArray, List.set_cons_zero, List.set_cons_succ]
    refine wpT_tk 7 16 (v := ?_) (Below.refl _ _) rfl rfl (by rfl) (hy := fun w hw => ?_) (h := ?_)
    rotate_left
    · go_simp; with_reducible rfl
    try simp only [Act.put, List.setIfInBounds_toArray, List.set_cons_zero, List.set_cons_succ]
    refine wpT_tk 8 17 (v := ?_) (Below.refl _ _) rfl rfl (by rfl) (hy := fun w hw => ?_) (h := ?_)
    rotate_left
    · have d5 := keptBelow hw d5; go_simp; with_reducible rfl
    try simp only [Act.put, List.setIfInBounds_toArray, List.set_cons_zero, List.set_cons_succ]
    refine wpT_tk 4 13 (v := .int .i64 bk) (Below.refl _ _) rfl rfl (by rfl) (hy := fun w hw => ?_) (h := ?_)
    · by_cases h : b < b'
      · obtain rfl : bk = b' := by have := EB.out; omega
        go_simp; try (intro _; omega)
      · obtain rfl : bk = b := by have := EB.out; omega
        go_simp; try (intro _; omega)
    try simp only [Act.put, List.setIfInBounds_toArray, List.set_cons_zero, List.set_cons_succ]
    refine wpT_tk 9 18 (v := .int .i64 fr) (Below.refl _ _) rfl rfl (by rfl) (hy := fun w hw => ?_) (h := ?_)
    · by_cases h : f < f'
      · obtain rfl : fr = f := by have := EF.out; omega
        go_simp; try (intro _; omega)
      · obtain rfl : fr = f' := by have := EF.out; omega
        go_simp; try (intro _; omega)
    try simp only [Act.put, List.setIfInBounds_toArray, List.set_cons_zero, List.set_cons_succ]
    refine wpT_one 10 rfl rfl (by kernel_rfl) ?_
    go_simp
    refine ⟨Below.refl _ _, ?_⟩
    refine wpT_one 11 rfl rfl (by kernel_rfl) ?_
    go_simp
    refine wpT_done (by kernel_rfl) ?_ _
    go_wp2_with fail
    go_meet
    case rel => exact ⟨rfl, rfl, hd⟩
  case rest =>
    obtain ⟨rfl, rfl, hBc⟩ := hcut
    have HX := Lib.hid (HX.out.via hBc)
    have HY := Lib.hid (HY.out.via hBc)
    have HB := Lib.hid (belowStep HB.out hBc)
    clear hBc c0 c1 c2 c3 c4 c5 d0 d1 d2 d3 d4 d5
    obtain ⟨c0, c1, c2, c3, c4, c5⟩ := HX.out
    dsimp only at c0 c1 c2 c3 c4 c5
    clear EB EF
    rcases v1 with _ | _
    · go_wp2_with fail
      refine (HV1.out _ HB.out).mono ?_
      rintro e w1 ⟨rfl, hB1⟩
      have HB1 := Lib.hid (belowStep HB.out hB1)
      clear hB1
      go_wp2_with fail
      go_ret3
      exact ⟨by rw [HE.out]; rfl, HB1.out⟩
    · go_wp2_with fail
      refine (HV1.out _ HB.out).mono ?_
      rintro e w1 ⟨rfl, hB1⟩
      have HB1 := Lib.hid (belowStep HB.out hB1)
      obtain ⟨d0, d1, d2, d3, d4, d5⟩ := HY.out.via hB1
      dsimp only at d0 d1 d2 d3 d4 d5
      clear hB1 c0 c1 c2 c3 c4 c5
      rcases v2 with _ | _
      · go_wp2_with fail
        refine (HV2.out _ HB1.out).mono ?_
        rintro e w2 ⟨rfl, hB2⟩
        have HB2 := Lib.hid (belowStep HB1.out hB2)
        clear hB2
        go_wp2_with fail
        go_ret3
        exact ⟨by rw [HE.out]; rfl, HB2.out⟩
      · go_wp2_with fail
        refine (HV2.out _ HB1.out).mono ?_
        rintro e w2 ⟨rfl, hB2⟩
        have HB2 := Lib.hid (belowStep HB1.out hB2)
        clear hB2
        by_cases hlt : bk < fr
        · have hge : ¬ fr ≤ bk := by omega
          have hd : decide (fr ≤ bk) = false := decide_eq_false hge
          go_wp2_with fail
          go_ret3
          exact ⟨by rw [HE.out, decide_eq_true hlt]; rfl, HB2.out⟩
        · have hge : fr ≤ bk := by omega
          go_wp2_with fail
          go_ret3
          exact ⟨by rw [HE.out, decide_eq_false (Int.not_lt.mpr hge)]; rfl, HB2.out⟩
end Go.Proofs.YtcamncipkofgkaaDoor
/- UntTouch: The contracts of Overlap and Touch. -/
namespace Unt
open Pln
def overU (a b : U) : Bool := comU a b && overP a.shape b.shape
def touU (a b : U) : Option (Pt × Pt) := if comU a b = true then seamP a.shape b.shape else none
end Unt
namespace Go.Proofs.YtcamncipkofgkaaDoor
open Go.RowKit Go.Shelf Pln Unt
def conV (a b : Int) (s : Pt × Pt) (x y : Int) : Value := .agg #[.int .i64 a, .int .i64 b, .int .i64 s.1.1, .int .i64 s.1.2, .int .i64 s.2.1, .int .i64 s.2.2, .int .i64 x, .int .i64 y]
def touV (u t : U) : Value := match touU u t with
  | some s => .tuple #[conV u.id t.id s (bckP u t) (frtP u t), .bool true]
  | none => .tuple #[conV 0 0 ((0, 0), (0, 0)) 0 0, .bool false]
/-- Two boxed units and what a call made behind them. -/
structure TwoU (w W : World) (u t : U) (s r : Value) : Prop where
  x : UBox W w.heap.size u s
  y : UBox W (w.heap.size + 1) t r
  b : Below w.heap.size w W
theorem twoU (w : World) (u t : U) (s r : Value) : TwoU w ((w.alloc (uo u s)).alloc (uo t r)) u t s r := by
  refine ⟨(UBox.new w u s).via (alloc_below _ _), ?_, belowStep (alloc_below _ _) (alloc_below _ _)⟩
  have := UBox.new (w.alloc (uo u s)) t r
  simpa using this
theorem TwoU.via {w W W' : World} {u t : U} {s r : Value} (h : TwoU w W u t s r) (hB : Below W.heap.size W W') : TwoU w W' u t s r := ⟨h.x.via hB, h.y.via hB, belowStep h.b hB⟩
set_option maxRecDepth 100000 in
set_option maxHeartbeats 1000000 in
theorem overU_w (u t : U) (s r : Value) (w : World) (h1 : UAt w s u) (h2 : UAt w r t) :
    Calls Tryd.prog 27 #[uv u s, uv t r] w fun e w' => e = .returned (.bool (overU u t)) ∧ Below w.heap.size w w' := by
  have HC := Lib.hid (fun w1 (hB : Below w.heap.size w w1) => common_w u t s r w1 (h1.via hB) (h2.via hB))
  have HO := Lib.hid (fun w1 (hB : Below w.heap.size w w1) => overlap_w u.shape t.shape h1.ok.len h2.ok.len s r w1 (h1.at_.via hB) (h2.at_.via hB))
  have HE : Hid (overU u t = (comU u t && overP u.shape t.shape)) := Lib.hid rfl
  have HV : Hid (comV u t = if comU u t = true then .tuple #[.int .i64 (bckP u t), .int .i64 (frtP u t), .bool true] else .tuple #[.int .i64 0, .int .i64 0, .bool false]) := Lib.hid rfl
  have H2 := Lib.hid (twoU w u t s r)
  obtain ⟨W, hW⟩ : ∃ W, W = (w.alloc (uo u s)).alloc (uo t r) := ⟨_, rfl⟩
  rw [← hW] at H2
  clear h1 h2
  generalize overU u t = ov at *
  generalize bckP u t = bk at *
  generalize frtP u t = fr at *
  generalize comV u t = cv at *
  generalize overP u.shape t.shape = op at *
  unfold uo at hW
  unfold uv at *
  rcases hc : comU u t with _ | _
  · rw [hc] at HE HV
    have hcv : cv = .tuple #[.int .i64 0, .int .i64 0, .bool false] := HV.out
    subst hcv
    clear hc
    obtain ⟨i, k, m, sh, b, f⟩ := u
    obtain ⟨i', k', m', sh', b', f'⟩ := t
    dsimp only at *
    go_enter Tryd.func27, Tryd.ntmps27
    go_upto_region 1 with fail
    rw [← hW]
    clear hW
    obtain ⟨c0, c1, c2, c3, c4, c5⟩ := H2.out.x
    obtain ⟨d0, d1, d2, d3, d4, d5⟩ := H2.out.y
    dsimp only at c0 c1 c2 c3 c4 c5 d0 d1 d2 d3 d4 d5
    go_wp2_with fail
    refine (HC.out _ H2.out.b).mono ?_
    rintro e w1 ⟨rfl, hB1⟩
    have HB1 := Lib.hid (belowStep H2.out.b hB1)
    clear hB1
    go_wp2_with fail
    go_ret
    exact ⟨ret_bool (by rw [HE.out]; rfl), HB1.out⟩
  · rw [hc] at HE HV
    have hcv : cv = .tuple #[.int .i64 bk, .int .i64 fr, .bool true] := HV.out
    subst hcv
    clear hc
    obtain ⟨i, k, m, sh, b, f⟩ := u
    obtain ⟨i', k', m', sh', b', f'⟩ := t
    dsimp only at *
    go_enter Tryd.func27, Tryd.ntmps27
    go_upto_region 1 with fail
    rw [← hW]
    clear hW
    obtain ⟨c0, c1, c2, c3, c4, c5⟩ := H2.out.x
    obtain ⟨d0, d1, d2, d3, d4, d5⟩ := H2.out.y
    dsimp only at c0 c1 c2 c3 c4 c5 d0 d1 d2 d3 d4 d5
    go_wp2_with fail
    refine (HC.out _ H2.out.b).mono ?_
    rintro e w1 ⟨rfl, hB1⟩
    have HB1 := Lib.hid (belowStep H2.out.b hB1)
    have c3 := keptBelow hB1 c3
    have d3 := keptBelow hB1 d3
    clear hB1 c0 c1 c2 c4 c5 d0 d1 d2 d4 d5
    go_wp2_with fail
    refine (HO.out _ HB1.out).mono ?_
    rintro e w2 ⟨rfl, hB2⟩
    have HB2 := Lib.hid (belowStep HB1.out hB2)
    clear hB2
    go_wp2_with fail
    go_ret
    exact ⟨ret_bool (by rw [HE.out]; rfl), HB2.out⟩
theorem touch_end {w W : World} {x0 x1 x2 x3 x4 x5 x6 x7 : Int} {y : Bool} {tm : Array Value} {V : Value} (hz : W.heap[w.heap.size + 1 + 1]? = some (.cells #[.int .i64 0, .int .i64 0, .int .i64 0, .int .i64 0, .int .i64 0, .int .i64 0, .int .i64 0, .int .i64 0] 42 (0, 0))) (hB : Below w.heap.size w W) (ho : V = .tuple #[.agg #[.int .i64 x0, .int .i64 x1, .int .i64 x2, .int .i64 x3, .int .i64 x4, .int .i64 x5, .int .i64 x6, .int .i64 x7], .bool y])
    (h4 : tm[4]?.getD undef = .pointer (some ⟨w.heap.size + 1 + 1, 0, none⟩) := by rfl) (h5 : tm[5]?.getD undef = .bool y := by rfl) :
    bodyPost Tryd.prog Tryd.f25 (fun e w' => e = .returned V ∧ Below w.heap.size w w') .ret { tmps := tm, defers := [] }
      ((((((((W.setCell ⟨w.heap.size + 1 + 1, 0, none⟩ (.int .i64 x0)).setCell ⟨w.heap.size + 1 + 1, 1, none⟩ (.int .i64 x1)).setCell ⟨w.heap.size + 1 + 1, 2, none⟩ (.int .i64 x2)).setCell ⟨w.heap.size + 1 + 1, 3, none⟩ (.int .i64 x3)).setCell ⟨w.heap.size + 1 + 1, 4, none⟩ (.int .i64 x4)).setCell ⟨w.heap.size + 1 + 1, 5, none⟩ (.int .i64 x5)).setCell ⟨w.heap.size + 1 + 1, 6, none⟩ (.int .i64 x6)).setCell ⟨w.heap.size + 1 + 1, 7, none⟩ (.int .i64 x7)) := by
  have z0 := cell_heap hz (i := 0) rfl
  have z1 := cell_heap hz (i := 1) rfl
  have z2 := cell_heap hz (i := 2) rfl
  have z3 := cell_heap hz (i := 3) rfl
  have z4 := cell_heap hz (i := 4) rfl
  have z5 := cell_heap hz (i := 5) rfl
  have z6 := cell_heap hz (i := 6) rfl
  have z7 := cell_heap hz (i := 7) rfl
  refine bodyPost_ret (v := .tuple #[.agg #[.int .i64 x0, .int .i64 x1, .int .i64 x2, .int .i64 x3, .int .i64 x4, .int .i64 x5, .int .i64 x6, .int .i64 x7], .bool y]) (by simp [results, Tryd.results25, go_sem, h4, h5, z0, z1, z2, z3, z4, z5, z6, z7]) rfl ⟨by rw [ho], ?_⟩
  exact ((((((((hB.setCell (p := ⟨w.heap.size + 1 + 1, 0, none⟩) (by simp; omega) _).setCell (p := ⟨w.heap.size + 1 + 1, 1, none⟩) (by simp; omega) _).setCell (p := ⟨w.heap.size + 1 + 1, 2, none⟩) (by simp; omega) _).setCell (p := ⟨w.heap.size + 1 + 1, 3, none⟩) (by simp; omega) _).setCell (p := ⟨w.heap.size + 1 + 1, 4, none⟩) (by simp; omega) _).setCell (p := ⟨w.heap.size + 1 + 1, 5, none⟩) (by simp; omega) _).setCell (p := ⟨w.heap.size + 1 + 1, 6, none⟩) (by simp; omega) _).setCell (p := ⟨w.heap.size + 1 + 1, 7, none⟩) (by simp; omega) _)
set_option maxRecDepth 100000 in
set_option maxHeartbeats 1000000 in
theorem touch_w (u t : U) (s r : Value) (w : World) (h1 : UAt w s u) (h2 : UAt w r t) :
    Calls Tryd.prog 25 #[uv u s, uv t r] w fun e w' => e = .returned (touV u t) ∧ Below w.heap.size w w' := by
  have HC := Lib.hid (fun w1 (hB : Below w.heap.size w w1) => common_w u t s r w1 (h1.via hB) (h2.via hB))
  have HO := Lib.hid (fun w1 (hB : Below w.heap.size w w1) => seam_w u.shape t.shape h1.ok.len h2.ok.len s r w1 (h1.at_.via hB) (h2.at_.via hB))
  have HE : Hid (touV u t = match touU u t with
    | some s => .tuple #[conV u.id t.id s (bckP u t) (frtP u t), .bool true]
    | none => .tuple #[conV 0 0 ((0, 0), (0, 0)) 0 0, .bool false]) := Lib.hid rfl
  have HU : Hid (touU u t = if comU u t = true then seamP u.shape t.shape else none) := Lib.hid rfl
  have HV : Hid (comV u t = if comU u t = true then .tuple #[.int .i64 (bckP u t), .int .i64 (frtP u t), .bool true] else .tuple #[.int .i64 0, .int .i64 0, .bool false]) := Lib.hid rfl
  have H2 := Lib.hid (twoU w u t s r)
  obtain ⟨W0, hW0⟩ : ∃ W0, W0 = (w.alloc (uo u s)).alloc (uo t r) := ⟨_, rfl⟩
  rw [← hW0] at H2
  have hsz : W0.heap.size = w.heap.size + 1 + 1 := by rw [hW0]; simp
  obtain ⟨W, hW⟩ : ∃ W, W = W0.alloc (.cells #[.int .i64 0, .int .i64 0, .int .i64 0, .int .i64 0, .int .i64 0, .int .i64 0, .int .i64 0, .int .i64 0] 42) := ⟨_, rfl⟩
  have hA : Below W0.heap.size W0 W := by rw [hW]; exact alloc_below _ _
  have hz := heap_alloc_new W0 (.cells #[.int .i64 0, .int .i64 0, .int .i64 0, .int .i64 0, .int .i64 0, .int .i64 0, .int .i64 0, .int .i64 0] 42)
  rw [← hW, hsz] at hz
  have HZ := Lib.hid hz
  have H2 := Lib.hid (H2.out.via hA)
  rw [hW0] at hW
  clear h1 h2 hA hsz hW0 hz
  generalize touV u t = cv2 at *
  generalize bckP u t = bk at *
  generalize frtP u t = fr at *
  generalize comV u t = cv at *
  unfold uo at hW
  unfold uv at *
  rcases hc : comU u t with _ | _
  · have HU2 : Hid (touU u t = none) := Lib.hid (by rw [HU.out, hc]; rfl)
    rw [HU2.out] at HE
    rw [hc] at HV
    have hcv : cv = .tuple #[.int .i64 0, .int .i64 0, .bool false] := HV.out
    subst hcv
    clear hc HU HU2
    obtain ⟨i, k, m, sh, b, f⟩ := u
    obtain ⟨i', k', m', sh', b', f'⟩ := t
    dsimp only at *
    go_enter Tryd.func25, Tryd.ntmps25
    go_upto_region 1 with fail
    rw [← hW]
    clear hW
    obtain ⟨c0, c1, c2, c3, c4, c5⟩ := H2.out.x
    obtain ⟨d0, d1, d2, d3, d4, d5⟩ := H2.out.y
    dsimp only at c0 c1 c2 c3 c4 c5 d0 d1 d2 d3 d4 d5
    go_wp2_with fail
    refine (HC.out _ H2.out.b).mono ?_
    rintro e w1 ⟨rfl, hB1⟩
    have HB1 := Lib.hid (belowStep H2.out.b hB1)
    have HZ1 := Lib.hid (heap_below hB1 HZ.out)
    clear hB1 c0 c1 c2 c3 c4 c5 d0 d1 d2 d3 d4 d5
    have z0 := cell_heap HZ1.out (i := 0) rfl
    have z1 := cell_heap HZ1.out (i := 1) rfl
    have z2 := cell_heap HZ1.out (i := 2) rfl
    have z3 := cell_heap HZ1.out (i := 3) rfl
    have z4 := cell_heap HZ1.out (i := 4) rfl
    have z5 := cell_heap HZ1.out (i := 5) rfl
    have z6 := cell_heap HZ1.out (i := 6) rfl
    have z7 := cell_heap HZ1.out (i := 7) rfl
    have f0 := frozen_of_row _ _ 0 _ _ HZ1.out
    have f1 := frozen_of_row _ _ 1 _ _ HZ1.out
    have f2 := frozen_of_row _ _ 2 _ _ HZ1.out
    have f3 := frozen_of_row _ _ 3 _ _ HZ1.out
    have f4 := frozen_of_row _ _ 4 _ _ HZ1.out
    have f5 := frozen_of_row _ _ 5 _ _ HZ1.out
    have f6 := frozen_of_row _ _ 6 _ _ HZ1.out
    have f7 := frozen_of_row _ _ 7 _ _ HZ1.out
    go_wp2_with fail
    exact touch_end HZ1.out HB1.out (by rw [HE.out]; rfl)
  · rw [hc] at HV
    have HU2 : Hid (touU u t = seamP u.shape t.shape) := Lib.hid (by rw [HU.out, hc]; rfl)
    have hcv : cv = .tuple #[.int .i64 bk, .int .i64 fr, .bool true] := HV.out
    subst hcv
    clear hc HU
    rcases hs : seamP u.shape t.shape with _ | ⟨⟨P1, P2⟩, ⟨Q1, Q2⟩⟩
    · rw [HU2.out, hs] at HE
      rw [hs] at HO
      unfold seamV sv at HO
      dsimp only at HO HE
      clear hs HU2
      obtain ⟨i, k, m, sh, b, f⟩ := u
      obtain ⟨i', k', m', sh', b', f'⟩ := t
      dsimp only at *
      go_enter Tryd.func25, Tryd.ntmps25
      go_upto_region 1 with fail
      rw [← hW]
      clear hW
      obtain ⟨c0, c1, c2, c3, c4, c5⟩ := H2.out.x
      obtain ⟨d0, d1, d2, d3, d4, d5⟩ := H2.out.y
      dsimp only at c0 c1 c2 c3 c4 c5 d0 d1 d2 d3 d4 d5
      go_wp2_with fail
      refine (HC.out _ H2.out.b).mono ?_
      rintro e w1 ⟨rfl, hB1⟩
      have HB1 := Lib.hid (belowStep H2.out.b hB1)
      have HZ1 := Lib.hid (heap_below hB1 HZ.out)
      have HB2' := Lib.hid (belowStep HB1.out (alloc_below w1 (.cells #[.int .i64 0, .int .i64 0, .int .i64 0, .int .i64 0] 40)))
      have c3 := keptBelow hB1 c3
      have d3 := keptBelow hB1 d3
      have c0 := keptBelow hB1 c0
      have d0 := keptBelow hB1 d0
      clear hB1 c1 c2 c4 c5 d1 d2 d4 d5
      go_wp2_with fail
      refine (HO.out _ HB1.out).mono ?_
      rintro e w2 ⟨rfl, hB2⟩
      have hA2 := alloc_below w2 (.cells #[.int .i64 0, .int .i64 0, .int .i64 0, .int .i64 0] 40)
      have HB3 := Lib.hid (belowStep HB1.out (belowStep hB2 hA2))
      have HZ3 := Lib.hid (heap_below (belowStep hB2 hA2) HZ1.out)
      have HX3 := Lib.hid (heap_alloc_new w2 (.cells #[.int .i64 0, .int .i64 0, .int .i64 0, .int .i64 0] 40))
      have c0 := keptBelow (belowStep hB2 hA2) c0
      have d0 := keptBelow (belowStep hB2 hA2) d0
      clear hB2 hA2 c3 d3 HB2'
      have x0 := cell_heap HX3.out (i := 0) rfl
      have x1 := cell_heap HX3.out (i := 1) rfl
      have x2 := cell_heap HX3.out (i := 2) rfl
      have x3 := cell_heap HX3.out (i := 3) rfl
      have z0 := cell_heap HZ3.out (i := 0) rfl
      have z1 := cell_heap HZ3.out (i := 1) rfl
      have z2 := cell_heap HZ3.out (i := 2) rfl
      have z3 := cell_heap HZ3.out (i := 3) rfl
      have z4 := cell_heap HZ3.out (i := 4) rfl
      have z5 := cell_heap HZ3.out (i := 5) rfl
      have z6 := cell_heap HZ3.out (i := 6) rfl
      have z7 := cell_heap HZ3.out (i := 7) rfl
      have f0 := frozen_of_row _ _ 0 _ _ HZ3.out
      have f1 := frozen_of_row _ _ 1 _ _ HZ3.out
      have f2 := frozen_of_row _ _ 2 _ _ HZ3.out
      have f3 := frozen_of_row _ _ 3 _ _ HZ3.out
      have f4 := frozen_of_row _ _ 4 _ _ HZ3.out
      have f5 := frozen_of_row _ _ 5 _ _ HZ3.out
      have f6 := frozen_of_row _ _ 6 _ _ HZ3.out
      have f7 := frozen_of_row _ _ 7 _ _ HZ3.out
      go_wp2_with fail
      exact touch_end HZ3.out HB3.out (by rw [HE.out]; rfl)
    · rw [HU2.out, hs] at HE
      rw [hs] at HO
      unfold seamV sv at HO
      dsimp only at HO HE
      clear hs HU2
      obtain ⟨i, k, m, sh, b, f⟩ := u
      obtain ⟨i', k', m', sh', b', f'⟩ := t
      dsimp only at *
      go_enter Tryd.func25, Tryd.ntmps25
      go_upto_region 1 with fail
      rw [← hW]
      clear hW
      obtain ⟨c0, c1, c2, c3, c4, c5⟩ := H2.out.x
      obtain ⟨d0, d1, d2, d3, d4, d5⟩ := H2.out.y
      dsimp only at c0 c1 c2 c3 c4 c5 d0 d1 d2 d3 d4 d5
      go_wp2_with fail
      refine (HC.out _ H2.out.b).mono ?_
      rintro e w1 ⟨rfl, hB1⟩
      have HB1 := Lib.hid (belowStep H2.out.b hB1)
      have HZ1 := Lib.hid (heap_below hB1 HZ.out)
      have HB2' := Lib.hid (belowStep HB1.out (alloc_below w1 (.cells #[.int .i64 P1, .int .i64 P2, .int .i64 Q1, .int .i64 Q2] 40)))
      have c3 := keptBelow hB1 c3
      have d3 := keptBelow hB1 d3
      have c0 := keptBelow hB1 c0
      have d0 := keptBelow hB1 d0
      clear hB1 c1 c2 c4 c5 d1 d2 d4 d5
      go_wp2_with fail
      refine (HO.out _ HB1.out).mono ?_
      rintro e w2 ⟨rfl, hB2⟩
      have hA2 := alloc_below w2 (.cells #[.int .i64 P1, .int .i64 P2, .int .i64 Q1, .int .i64 Q2] 40)
      have HB3 := Lib.hid (belowStep HB1.out (belowStep hB2 hA2))
      have HZ3 := Lib.hid (heap_below (belowStep hB2 hA2) HZ1.out)
      have HX3 := Lib.hid (heap_alloc_new w2 (.cells #[.int .i64 P1, .int .i64 P2, .int .i64 Q1, .int .i64 Q2] 40))
      have c0 := keptBelow (belowStep hB2 hA2) c0
      have d0 := keptBelow (belowStep hB2 hA2) d0
      clear hB2 hA2 c3 d3 HB2'
      have x0 := cell_heap HX3.out (i := 0) rfl
      have x1 := cell_heap HX3.out (i := 1) rfl
      have x2 := cell_heap HX3.out (i := 2) rfl
      have x3 := cell_heap HX3.out (i := 3) rfl
      have z0 := cell_heap HZ3.out (i := 0) rfl
      have z1 := cell_heap HZ3.out (i := 1) rfl
      have z2 := cell_heap HZ3.out (i := 2) rfl
      have z3 := cell_heap HZ3.out (i := 3) rfl
      have z4 := cell_heap HZ3.out (i := 4) rfl
      have z5 := cell_heap HZ3.out (i := 5) rfl
      have z6 := cell_heap HZ3.out (i := 6) rfl
      have z7 := cell_heap HZ3.out (i := 7) rfl
      have f0 := frozen_of_row _ _ 0 _ _ HZ3.out
      have f1 := frozen_of_row _ _ 1 _ _ HZ3.out
      have f2 := frozen_of_row _ _ 2 _ _ HZ3.out
      have f3 := frozen_of_row _ _ 3 _ _ HZ3.out
      have f4 := frozen_of_row _ _ 4 _ _ HZ3.out
      have f5 := frozen_of_row _ _ 5 _ _ HZ3.out
      have f6 := frozen_of_row _ _ 6 _ _ HZ3.out
      have f7 := frozen_of_row _ _ 7 _ _ HZ3.out
      go_wp2_with fail
      exact touch_end HZ3.out HB3.out (by rw [HE.out]; rfl)
end Go.Proofs.YtcamncipkofgkaaDoor
/- PlnSame: The contract of the reference's Same. -/
namespace Go.Proofs.YtcamncipkofgkaaDoor
open Go.RowKit Go.Shelf Pln

theorem vx_ext {a b : List Pt} (h : a.length = b.length) (h2 : ∀ j, j < a.length → vx a j = vx b j) : a = b := by
  apply List.ext_getElem h
  intro i h3 h4
  have := h2 i h3
  rwa [vx_eq h3, vx_eq h4] at this
/-- Whether two lists are the same. -/
def sameB (a b : List Pt) : Bool := decide (a = b)
theorem same_no_len {a b : List Pt} (h : a.length ≠ b.length) : sameB a b = false := decide_eq_false (fun e => h (by rw [e]))
theorem same_no_at {a b : List Pt} {j : Nat} (h : vx a j ≠ vx b j) : sameB a b = false := decide_eq_false (fun e => h (by rw [e]))
theorem same_yes {a b : List Pt} (h : a.length = b.length) (h2 : ∀ j, j < a.length → vx a j = vx b j) : sameB a b = true := decide_eq_true (vx_ext h h2)
end Go.Proofs.YtcamncipkofgkaaDoor
/- UntRefA: Contracts of the reference's and the law's pick, and of the reference's Same. -/
namespace Unt
open Pln
def headB (u t : U) : Bool := decide (u.id = t.id) && decide (u.kind = t.kind) && decide (u.mat = t.mat) && decide (u.back = t.back) && decide (u.front = t.front)
def sameU (u t : U) : Bool := headB u t && Go.Proofs.YtcamncipkofgkaaDoor.sameB u.shape t.shape
theorem sameU_iff (u t : U) : sameU u t = true ↔ u = t := by
  obtain ⟨i, k, m, sh, b, f⟩ := u
  obtain ⟨i', k', m', sh', b', f'⟩ := t
  simp [sameU, headB, Go.Proofs.YtcamncipkofgkaaDoor.sameB]
  constructor
  · rintro ⟨⟨⟨⟨⟨h1, h2⟩, h3⟩, h4⟩, h5⟩, h6⟩
    exact ⟨h1, h2, h3, h6, h4, h5⟩
  · rintro ⟨h1, h2, h3, h6, h4, h5⟩
    exact ⟨⟨⟨⟨⟨h1, h2⟩, h3⟩, h4⟩, h5⟩, h6⟩
end Unt
namespace Go.Proofs.YtcamncipkofgkaaDoor
open Go.RowKit Go.Shelf Pln Unt
set_option maxRecDepth 100000 in
set_option maxHeartbeats 1000000 in
theorem pickR8_w (c n : Int) (hc : I64 c) (hn : 0 < n) (hn2 : n ≤ 1000) (w : World) :
    Calls Tryd.prog 45 #[.int .i64 c, .int .i64 n] w fun e w' => e = .returned (.int .i64 (pkN c n)) ∧ w = w' := by
  obtain ⟨c1, c2⟩ := hc
  by_cases h : c < 0
  · have hp : pkN c n = -((c + 1).tmod n) := by unfold pkN; rw [if_pos h, Int.neg_tmod]
    rw [hp]
    clear hp
    go_enter Tryd.func45, Tryd.ntmps45
    go_wp2
    go_ret
    exact ⟨rfl, rfl⟩
  · have h' : 0 ≤ c := by omega
    have hp : pkN c n = c % n := by unfold pkN; rw [if_neg h, Int.tmod_eq_emod_of_nonneg h']
    rw [hp]
    clear hp
    go_enter Tryd.func45, Tryd.ntmps45
    go_wp2
    go_ret
    exact ⟨rfl, rfl⟩
set_option maxRecDepth 100000 in
set_option maxHeartbeats 1000000 in
theorem pickL8_w (c n : Int) (hc : I64 c) (hn : 0 < n) (hn2 : n ≤ 1000) (w : World) :
    Calls Tryd.prog 29 #[.int .i64 c, .int .i64 n] w fun e w' => e = .returned (.int .i64 (pkN c n)) ∧ w = w' := by
  obtain ⟨c1, c2⟩ := hc
  by_cases h : c < 0
  · have hp : pkN c n = -((c + 1).tmod n) := by unfold pkN; rw [if_pos h, Int.neg_tmod]
    rw [hp]
    clear hp
    go_enter Tryd.func29, Tryd.ntmps29
    go_wp2
    go_ret
    exact ⟨rfl, rfl⟩
  · have h' : 0 ≤ c := by omega
    have hp : pkN c n = c % n := by unfold pkN; rw [if_neg h, Int.tmod_eq_emod_of_nonneg h']
    rw [hp]
    clear hp
    go_enter Tryd.func29, Tryd.ntmps29
    go_wp2
    go_ret
    exact ⟨rfl, rfl⟩
set_option maxRecDepth 100000 in
set_option maxHeartbeats 2000000 in
theorem sameU_w (u t : U) (s r : Value) (w : World) (h1 : UAt w s u) (h2 : UAt w r t) :
    Calls Tryd.prog 32 #[uv u s, uv t r] w fun e w' => e = .returned (.bool (sameU u t)) ∧ Below w.heap.size w w' := by
  have H2 := Lib.hid (twoU w u t s r)
  obtain ⟨W, hW⟩ : ∃ W, W = (w.alloc (uo u s)).alloc (uo t r) := ⟨_, rfl⟩
  rw [← hW] at H2
  have HVA := Lib.hid (h1.at_.via H2.out.b)
  have HVB := Lib.hid (h2.at_.via H2.out.b)
  have HLA := Lib.hid h1.ok.len
  obtain ⟨i, k, m, sh, b, f⟩ := u
  obtain ⟨i', k', m', sh', b', f'⟩ := t
  obtain ⟨⟨aa, ca, rfl, _, _, _⟩, _⟩ := h1.at_
  obtain ⟨⟨ab, cb, rfl, _, _, _⟩, _⟩ := h2.at_
  dsimp only at *
  unfold uo at hW
  unfold uv at *
  clear h1 h2
  by_cases ei : i = i'
  rotate_left
  · have HR : Hid (sameU ⟨i, k, m, sh, b, f⟩ ⟨i', k', m', sh', b', f'⟩ = false) := Lib.hid (by simp [sameU, headB, ei])
    generalize sameU _ _ = sb at *
    go_enter Tryd.func32, Tryd.ntmps32
    go_upto_region 1 with fail
    rw [← hW]
    clear hW
    obtain ⟨c0, c1, c2, c3, c4, c5⟩ := H2.out.x
    obtain ⟨d0, d1, d2, d3, d4, d5⟩ := H2.out.y
    dsimp only at c0 c1 c2 c3 c4 c5 d0 d1 d2 d3 d4 d5
    go_wp2_with fail
    go_ret
    exact ⟨ret_bool HR.out.symm, H2.out.b⟩
  subst ei
  by_cases ek : k = k'
  rotate_left
  · have HR : Hid (sameU ⟨i, k, m, sh, b, f⟩ ⟨i, k', m', sh', b', f'⟩ = false) := Lib.hid (by simp [sameU, headB, ek])
    generalize sameU _ _ = sb at *
    go_enter Tryd.func32, Tryd.ntmps32
    go_upto_region 1 with fail
    rw [← hW]
    clear hW
    obtain ⟨c0, c1, c2, c3, c4, c5⟩ := H2.out.x
    obtain ⟨d0, d1, d2, d3, d4, d5⟩ := H2.out.y
    dsimp only at c0 c1 c2 c3 c4 c5 d0 d1 d2 d3 d4 d5
    go_wp2_with fail
    go_ret
    exact ⟨ret_bool HR.out.symm, H2.out.b⟩
  subst ek
  by_cases em : m = m'
  rotate_left
  · have HR : Hid (sameU ⟨i, k, m, sh, b, f⟩ ⟨i, k, m', sh', b', f'⟩ = false) := Lib.hid (by simp [sameU, headB, em])
    generalize sameU _ _ = sb at *
    go_enter Tryd.func32, Tryd.ntmps32
    go_upto_region 1 with fail
    rw [← hW]
    clear hW
    obtain ⟨c0, c1, c2, c3, c4, c5⟩ := H2.out.x
    obtain ⟨d0, d1, d2, d3, d4, d5⟩ := H2.out.y
    dsimp only at c0 c1 c2 c3 c4 c5 d0 d1 d2 d3 d4 d5
    go_wp2_with fail
    go_ret
    exact ⟨ret_bool HR.out.symm, H2.out.b⟩
  subst em
  by_cases eb : b = b'
  rotate_left
  · have HR : Hid (sameU ⟨i, k, m, sh, b, f⟩ ⟨i, k, m, sh', b', f'⟩ = false) := Lib.hid (by simp [sameU, headB, eb])
    generalize sameU _ _ = sb at *
    go_enter Tryd.func32, Tryd.ntmps32
    go_upto_region 1 with fail
    rw [← hW]
    clear hW
    obtain ⟨c0, c1, c2, c3, c4, c5⟩ := H2.out.x
    obtain ⟨d0, d1, d2, d3, d4, d5⟩ := H2.out.y
    dsimp only at c0 c1 c2 c3 c4 c5 d0 d1 d2 d3 d4 d5
    go_wp2_with fail
    go_ret
    exact ⟨ret_bool HR.out.symm, H2.out.b⟩
  subst eb
  by_cases ef : f = f'
  rotate_left
  · have HR : Hid (sameU ⟨i, k, m, sh, b, f⟩ ⟨i, k, m, sh', b, f'⟩ = false) := Lib.hid (by simp [sameU, headB, ef])
    generalize sameU _ _ = sb at *
    go_enter Tryd.func32, Tryd.ntmps32
    go_upto_region 1 with fail
    rw [← hW]
    clear hW
    obtain ⟨c0, c1, c2, c3, c4, c5⟩ := H2.out.x
    obtain ⟨d0, d1, d2, d3, d4, d5⟩ := H2.out.y
    dsimp only at c0 c1 c2 c3 c4 c5 d0 d1 d2 d3 d4 d5
    go_wp2_with fail
    go_ret
    exact ⟨ret_bool HR.out.symm, H2.out.b⟩
  subst ef
  obtain ⟨na, hna⟩ : ∃ na, na = sh.length := ⟨_, rfl⟩
  obtain ⟨nb, hnb⟩ : ∃ nb, nb = sh'.length := ⟨_, rfl⟩
  have HNA := Lib.hid hna
  have HNB := Lib.hid hnb
  have HSU : Hid (sameU ⟨i, k, m, sh, b, f⟩ ⟨i, k, m, sh', b, f⟩ = sameB sh sh') := Lib.hid (by simp [sameU, headB])
  generalize sameU _ _ = sb at *
  rw [← hna] at hW
  rw [← hnb] at hW
  have hH2 := H2.out
  rw [← hna, ← hnb] at hH2
  have H2 := Lib.hid hH2
  have hHA := HVA.out
  rw [← hna] at hHA
  have HVA := Lib.hid hHA
  have hHB := HVB.out
  rw [← hnb] at hHB
  have HVB := Lib.hid hHB
  clear hH2 hHA hHB
  rw [← hna, ← hnb]
  by_cases he : na = nb
  rotate_left
  · have HR : Hid (sb = false) := Lib.hid (by rw [HSU.out]; exact same_no_len (by rw [← hna, ← hnb]; exact he))
    have he2 : ¬ (na : Int) = nb := by omega
    clear hna hnb
    go_enter Tryd.func32, Tryd.ntmps32
    go_upto_region 1 with fail
    rw [← hW]
    clear hW
    obtain ⟨c0, c1, c2, c3, c4, c5⟩ := H2.out.x
    obtain ⟨d0, d1, d2, d3, d4, d5⟩ := H2.out.y
    dsimp only at c0 c1 c2 c3 c4 c5 d0 d1 d2 d3 d4 d5
    go_wp2_with fail
    go_ret
    exact ⟨ret_bool HR.out.symm, H2.out.b⟩
  · subst he
    have HY : Hid ((∀ j, j < na → vx sh j = vx sh' j) → sb = true) := Lib.hid (fun h => by rw [HSU.out]; exact same_yes (by rw [← hna, ← hnb]) (fun j hj => h j (by rw [hna]; exact hj)))
    have HN : Hid (∀ j, vx sh j ≠ vx sh' j → sb = false) := Lib.hid (fun j h => by rw [HSU.out]; exact same_no_at h)
    have hab : (na : Int) ≤ 4611686018427387904 := by have := HLA.out; unfold Len at this; omega
    clear hna hnb
    go_enter Tryd.func32, Tryd.ntmps32
    go_upto_region 1 with fail
    rw [← hW]
    clear hW
    obtain ⟨c0, c1, c2, c3, c4, c5⟩ := H2.out.x
    obtain ⟨d0, d1, d2, d3, d4, d5⟩ := H2.out.y
    dsimp only at c0 c1 c2 c3 c4 c5 d0 d1 d2 d3 d4 d5
    go_wp2_with fail
    clear c0 c1 c2 c3 c4 c5 d0 d1 d2 d3 d4 d5
    go_loopw [5] (fun x wr => ∃ k : Nat, k ≤ na ∧ x = .int .i64 k ∧ (∀ j, j < k → vx sh j = vx sh' j) ∧ Below W.heap.size W wr) (fun x _ => na - (intOf x).toNat)
    case atStart => exact ⟨0, by omega, rfl, fun j hj => by omega, Below.refl _ _⟩
    case round =>
      obtain ⟨j, hk, rfl, hj, hB⟩ := hrel
      have HJ := Lib.hid hj
      have HB := Lib.hid hB
      have HB2 := Lib.hid (belowStep H2.out.b hB)
      have H3 := Lib.hid (H2.out.via hB)
      have c3 := H3.out.x.c3
      have d3 := H3.out.y.c3
      try dsimp only at c3 d3
      by_cases hlt : j < na
      · have hlt' : (j : Int) < na := by omega
        have hka : j < sh.length := by rw [← HNA.out]; exact hlt
        have hkb : j < sh'.length := by rw [← HNB.out]; exact hlt
        have hv2 := HVA.out.via hB
        obtain ⟨⟨a', c', he, _, _, hin⟩, _⟩ := hv2
        rw [← HNA.out] at he
        cases he
        obtain ⟨g, o, rfl, x0, x1⟩ := hin.get hka
        have hv3 := HVB.out.via hB
        obtain ⟨⟨a', c', he, _, _, hin2⟩, _⟩ := hv3
        rw [← HNB.out] at he
        cases he
        obtain ⟨g2, o2, rfl, y0, y1⟩ := hin2.get hkb
        have HN2 := Lib.hid (HN.out j)
        have HS : Hid (vx sh j = vx sh' j → ∀ n, n < j + 1 → vx sh n = vx sh' n) := Lib.hid (fun h => snoc_all hj h)
        clear hin hin2 hka hkb hj hB
        generalize vx sh j = p at *
        generalize vx sh' j = q at *
        obtain ⟨p1, p2⟩ := p
        obtain ⟨q1, q2⟩ := q
        dsimp only at x0 x1 y0 y1
        rcases pt_cases p1 p2 q1 q2 with ⟨rfl, rfl⟩ | h | ⟨rfl, h⟩
        · have HS2 := Lib.hid (HS.out rfl)
          go_wp2_with fail
          go_quiet (fail)
          go_wp2_with fail
          go_roundw
          case rel => exact ⟨j + 1, by omega, by go_num, HS2.out, below_drewN HB.out _⟩
          case measure => simp [intOf]; omega
        · have HR := Lib.hid (HN2.out (fun e => h (congrArg Prod.fst e)))
          go_wp2_with fail
          go_quiet (fail)
          go_wp2_with fail
          go_ret
          exact ⟨ret_bool HR.out.symm, below_drewN HB2.out _⟩
        · have HR := Lib.hid (HN2.out (fun e => h (congrArg Prod.snd e)))
          go_wp2_with fail
          go_quiet (fail)
          go_wp2_with fail
          go_ret
          exact ⟨ret_bool HR.out.symm, below_drewN HB2.out _⟩
      · obtain rfl : na = j := by omega
        have HR := Lib.hid (HY.out HJ.out)
        clear hj hB
        go_wp2_with fail
        go_ret
        exact ⟨ret_bool HR.out.symm, HB2.out⟩
end Go.Proofs.YtcamncipkofgkaaDoor
/- UntRegC: In a region that draws its order: a call that leaves the world as it is may be taken first. Of no program. -/
namespace Pln
open Go

section
variable {F : Fence} {n : Nat} {P : Program} {ops : Array Oper} {Q : Exit → Act → World → Prop} {md : Region.Mode} {S : World → Prop}
theorem wpOpIn_putG {Y : Act → Prop} {j : Nat} {oi oj : Oper} {v : Value} (hsame : ∀ a a', Y a → execOp a'.eval oi = execOp a.eval oi → Region.wanted oi (yielded ops a'.tmps) = Region.wanted oi (yielded ops a.tmps) → (∀ w, oi.about P w a'.eval = oi.about P w a.eval) → Y a') (hnd : noDefer ops = true) (hj : ops[j]? = some oj) (hap : oi.apart ops oj = true)
    (hsi : ∀ cs b, oi.op ≠ .select cs b) (hsj : ∀ cs b, oj.op ≠ .select cs b)
    (hQ : ∀ c a w, Q (.panic c) (a.put oi.dst v) w → Q (.panic c) a w) {K : Act → World → Prop} {a : Act} {w : World}
    (hy : Y a) (h : wpOpIn F n P ops Q j K (a.put oi.dst v) w) :
    wpOpIn F n P ops Q j (fun a' w' => Y a' ∧ K (a'.put oi.dst v) w') a w := by
  obtain ⟨h1, h2, h3⟩ := Oper.apart_spec hap
  have hnd' := noDefer_spec hnd j oj hj
  have keep : ∀ (a : Act), Y a → ∀ u, Y (a.put oj.dst u) := fun a hy u =>
    hsame a _ hy (execOp_put oi hsi a oj.dst u h3) (wanted_put oi a oj.dst u h3) (fun w => about_put oi w a oj.dst u h3)
  unfold wpOpIn at *
  simp only [hj] at *
  rw [wanted_put oj a oi.dst v h1, about_put oj w a oi.dst v h1] at h
  split
  · rename_i hw
    simp only [hw, if_true] at h
    unfold Oper.wpIn at *
    rw [about_put oj w a oi.dst v h1] at h
    refine ⟨h.1, ?_⟩
    have h := h.2
    rw [Oper.semAt_plain F _ _ hnd', execOp_put oj hsj a oi.dst v h1] at h
    rw [Oper.semAt_plain F _ _ hnd']
    generalize (execOp a.eval oj).run P w = r at *
    cases r with
    | ok x w' =>
      cases x <;> simp only [Oper.uponIn] at h ⊢
      case value u => exact ⟨keep a hy u, by rw [← Act.put_comm a v u h2]; exact h⟩
      case skip => exact ⟨keep a hy _, by rw [← Act.put_comm a v undef h2]; exact h⟩
      case defer d =>
        refine ⟨keep { a with defers := d :: a.defers } (hsame a _ hy rfl rfl (fun _ => rfl)) _, ?_⟩
        rw [← Act.put_comm _ v undef h2, ← Act.put_defers]
        exact h
      case enter f args =>
        refine ⟨h.1, CallsIn.mono h.2 fun e w'' he => ?_⟩
        cases e with
        | returned u => exact ⟨keep a hy u, by rw [← Act.put_comm a v u h2]; exact he⟩
        | panicked c => exact hQ _ _ _ he
        | outgrown => exact he
      case row row args => exact ⟨h.1, RowsIn.mono h.2 fun u w'' he => ⟨keep a hy u, by rw [← Act.put_comm a v u h2]; exact he⟩⟩
      case round l f tmps assign body =>
        refine ⟨h.1, RoundIn.mono h.2 fun e w'' he => ?_⟩
        cases e with
        | returned u => exact ⟨keep a hy u, by rw [← Act.put_comm a v u h2]; exact he⟩
        | panicked c => exact hQ _ _ _ he
        | outgrown => exact he
    | halt x w' =>
      cases x <;> simp only [Oper.uponIn] at h ⊢
      case panic u => exact hQ _ _ _ h
  · rename_i hw
    simp only [hw] at h
    exact ⟨h.1, keep a hy _, by rw [← Act.put_comm a v undef h2]; exact h.2⟩

theorem wpT_firstG {Y : Act → Prop} {k i : Nat} {oi : Oper} {v : Value} {T : List Nat} (hnd : noDefer ops = true) (hi : ops[i]? = some oi) (hT : closedT md ops i T = true) (hkT : k ∈ T) (hiT : i ∉ T)
    (hsame : ∀ a a', Y a → execOp a'.eval oi = execOp a.eval oi → Region.wanted oi (yielded ops a'.tmps) = Region.wanted oi (yielded ops a.tmps) → (∀ w, oi.about P w a'.eval = oi.about P w a.eval) → Y a') (hrun : ∀ (K : Act → World → Prop) a w, Y a → S w → K (a.put oi.dst v) w → wpOpIn F n P ops Q i K a w)
    (hsel : ∀ (j : Nat) (o : Oper) cs b, ops[j]? = some o → o.op ≠ .select cs b) (hQ : ∀ c a w, Q (.panic c) (a.put oi.dst v) w → Q (.panic c) a w) :
    ∀ (fuel : Nat) (listed : Array Bool) (a : Act) (w : World),
      (∀ j oj, ops[j]? = some oj → j ≠ i → listed.getD j true = false → (∀ e ∈ oj.after, Region.binds md e = true → e.on ≠ i) → oi.apart ops oj = true) →
      i ∈ Region.ready md ops listed → (∀ j ∈ T, listed.getD j true = false) → Y a → S w →
      wpT F n P md ops Q S k fuel (listed.setIfInBounds i true) (a.put oi.dst v) w → wpT F n P md ops Q S k (fuel + 1) listed a w := by
  intro fuel
  induction fuel with
  | zero =>
    intro listed a w _ hr _ hy hS H
    refine ⟨fun h => (by rw [h] at hr; cases hr), fun j hj => ?_⟩
    by_cases hji : j = i
    · subst hji; exact hrun _ _ _ hy hS ⟨fun _ => hS, H⟩
    · have h := ready_mono hj hji
      rw [H.1] at h
      cases h
  | succ fuel ih =>
    intro listed a w hfree hr hun hy hS H
    refine ⟨fun h => (by rw [h] at hr; cases hr), fun j hj => ?_⟩
    by_cases hji : j = i
    · subst hji; exact hrun _ _ _ hy hS ⟨fun _ => hS, H⟩
    · have huni := (mem_ready.1 hr).1
      obtain ⟨hjun, oj, hoj, hall⟩ := mem_ready.1 hj
      have off : ∀ x, listed.getD x true = false → listed.getD x false = true → False := fun x h1 h2 => by
        rcases Nat.lt_or_ge x listed.size with h' | h'
        · simp [h'] at h1 h2; rw [h1] at h2; cases h2
        · simp [Array.getElem?_eq_none h'] at h2
      have hnot : ∀ e ∈ oj.after, Region.binds md e = true → e.on ≠ i := fun e he hb heq => by
        have h1 := hall e he hb
        rw [heq] at h1
        exact off i huni h1
      have hjT : j ∉ T := fun hjm => by
        have h1 := List.all_eq_true.1 hT j hjm
        rw [hoj] at h1
        simp only [Option.map_some, Option.getD_some] at h1
        rw [Array.any_eq_true] at h1
        obtain ⟨x, hx, h⟩ := h1
        simp only [Bool.and_eq_true, Bool.or_eq_true, beq_iff_eq, List.contains_iff_mem] at h
        have h2 := hall _ (Array.getElem_mem hx) h.1
        rcases h.2 with h3 | h3
        · rw [h3] at h2; exact off i huni h2
        · exact off _ (hun _ h3) h2
      have hjk : j ≠ k := fun e => hjT (by rw [e]; exact hkT)
      have hik : i ≠ k := fun e => hiT (by rw [e]; exact hkT)
      have h2 := wpOpIn_putG hsame hnd hoj (hfree j oj hoj hji hjun hnot) (fun cs b => hsel i oi cs b hi) (fun cs b => hsel j oj cs b hoj) hQ hy (H.2 j (ready_mono hj hji))
      have hfree' : ∀ m om, ops[m]? = some om → m ≠ i → (listed.setIfInBounds j true).getD m true = false →
          (∀ e ∈ om.after, Region.binds md e = true → e.on ≠ i) → oi.apart ops om = true := fun m om hm hmi hu hno => by
        refine hfree m om hm hmi ?_ hno
        by_cases hjm : j = m
        · subst hjm; exact hjun
        · rw [getD_set_ne true hjm] at hu; exact hu
      have hun' : ∀ m ∈ T, (listed.setIfInBounds j true).getD m true = false := fun m hm => by
        rw [getD_set_ne true (fun e => hjT (by rw [e]; exact hm))]; exact hun m hm
      have hkl3 : ((listed.setIfInBounds i true).setIfInBounds j true).getD k true = false := by rw [getD_set_ne true hjk, getD_set_ne true hik]; exact hun k hkT
      refine wpOpIn_mono (fun a' w' h3 => ⟨fun _ => h3.2.1 hkl3, ih (listed.setIfInBounds j true) a' w' hfree' (ready_mono hr (Ne.symm hji)) hun' h3.1 (h3.2.1 hkl3) ?_⟩) h2
      rw [Array.setIfInBounds_comm _ _ hji]
      exact h3.2.2
/-- In state a, in every world that meets S, the operation is a call that returns v and does nothing else. -/
def CallG (F : Fence) (n : Nat) (P : Program) (ops : Array Oper) (S : World → Prop) (o : Oper) (v : Value) (a : Act) : Prop :=
  Region.wanted o (yielded ops a.tmps) = true ∧ (∀ w f, o.about P w a.eval = some f → F.fn f) ∧ ∀ w, S w → ∃ f args, (execOp a.eval o).run P w = .ok (.enter f args) w ∧ (F.depth.isSome = true → 1 ≤ n) ∧ CallsIn F (n - 1) P f args w fun e w' => e = .returned v ∧ w' = w
theorem CallG.of_same {o : Oper} {v : Value} (a a' : Act) (hy : CallG F n P ops S o v a) (he : execOp a'.eval o = execOp a.eval o)
    (hw : Region.wanted o (yielded ops a'.tmps) = Region.wanted o (yielded ops a.tmps)) (hb : ∀ w, o.about P w a'.eval = o.about P w a.eval) : CallG F n P ops S o v a' := by
  obtain ⟨h1, h2, h3⟩ := hy
  refine ⟨hw.trans h1, fun w f hf => h2 w f (by rw [← hb w]; exact hf), fun w hS => ?_⟩
  rw [he]
  exact h3 w hS
theorem CallG.wpOpIn {i : Nat} {o : Oper} {v : Value} (hnd : noDefer ops = true) (hi : ops[i]? = some o) (K : Act → World → Prop) (a : Act) (w : World) (hy : CallG F n P ops S o v a) (hS : S w) (h : K (a.put o.dst v) w) : wpOpIn F n P ops Q i K a w := by
  obtain ⟨h1, h2, h3⟩ := hy
  obtain ⟨f, args, hr, hd, hc⟩ := h3 w hS
  unfold Go.wpOpIn
  simp only [hi, h1, if_true, Oper.wpIn, Oper.semAt_plain F _ _ (noDefer_spec hnd i o hi), hr, Oper.uponIn]
  refine ⟨h2 w, hd, hc.mono ?_⟩
  rintro e w' ⟨rfl, rfl⟩
  exact h
/-- Take the call i first. -/
theorem wpT_call (i : Nat) (d : Tmp) {k : Nat} {oi : Oper} {v : Value} {fuel : Nat} {listed : Array Bool} {a : Act} {w : World} (hS : S w)
    (hi : ops[i]? = some oi) (hd : oi.dst = some d) (hw : Region.wanted oi (yielded ops a.tmps) = true) (hnd : noDefer ops = true := by kernel_rfl) (hT : okT md ops listed i k = true := by kernel_rfl)
    (hs : Region.noSelect ops = true := by kernel_rfl) (hf : Region.free md ops listed i = true := by kernel_rfl) (hr : (Region.ready md ops listed).contains i = true := by kernel_rfl)
    (hQ : ∀ c a w, Q (.panic c) (a.put (some d) v) w → Q (.panic c) a w := by exact fun _ _ _ h => h) (hab : ∀ w f, oi.about P w a.eval = some f → F.fn f := by exact fun _ _ _ => trivial)
    (f : FuncId) (args : Array Value) (hrun : ∀ w, S w → (execOp a.eval oi).run P w = .ok (.enter f args) w) (hdp : F.depth.isSome = true → 1 ≤ n) (hc : ∀ w, S w → CallsIn F (n - 1) P f args w fun e w' => e = .returned v ∧ w' = w)
    (h : wpT F n P md ops Q S k fuel (listed.setIfInBounds i true) (a.put (some d) v) w) : wpT F n P md ops Q S k (fuel + 1) listed a w := by
  have hQ' : ∀ c a w, Q (.panic c) (a.put oi.dst v) w → Q (.panic c) a w := by rw [hd]; exact hQ
  have h' : wpT F n P md ops Q S k fuel (listed.setIfInBounds i true) (a.put oi.dst v) w := by rw [hd]; exact h
  unfold okT at hT
  simp only [Bool.and_eq_true, List.contains_iff_mem, List.all_eq_true, Bool.not_eq_true', ← Bool.not_eq_true] at hT
  exact wpT_firstG (Y := CallG F n P ops S oi v) hnd hi hT.1.1.1 hT.1.1.2 hT.2 CallG.of_same (fun K a w hy hS h => CallG.wpOpIn hnd hi K a w hy hS h) (Region.noSelect_spec hs) hQ' fuel listed a w (Region.free_spec hi hf) (by simpa using hr) (fun j hj => by simpa using hT.1.2 j hj) ⟨hw, hab, fun w hw => ⟨f, args, hrun w hw, hdp, hc w hw⟩⟩ hS h'
end
end Pln
/- WirePure: Plain mathematics of layer 1 (wire): the encoding of integers and strings as lists of bytes, and its inverse. No Go here. -/
namespace Putlog

/-- The number that is encoded for n. -/
def zig (n : Int) : Nat := if n < 0 then (-2 * n - 1).toNat else (2 * n).toNat
def zag (z : Nat) : Int := if z % 2 = 1 then -((z / 2 : Nat) : Int) - 1 else ((z / 2 : Nat) : Int)
/-- Unsigned LEB128. -/
def leb (z : Nat) : List UInt8 := if z < 128 then [UInt8.ofNat z] else UInt8.ofNat (z % 128 + 128) :: leb (z / 128)
termination_by z
decreasing_by omega

theorem leb_lt {z : Nat} (h : z < 128) : leb z = [UInt8.ofNat z] := by rw [leb, if_pos h]
theorem leb_ge {z : Nat} (h : 128 ≤ z) : leb z = UInt8.ofNat (z % 128 + 128) :: leb (z / 128) := by rw [leb, if_neg (by omega)]
theorem leb_ne (z : Nat) : leb z ≠ [] := by unfold leb; split <;> simp
theorem leb_len_pos (z : Nat) : 0 < (leb z).length := List.length_pos_iff.2 (leb_ne z)
theorem leb_len_le : ∀ (k z : Nat), z < 128 ^ (k + 1) → (leb z).length ≤ k + 1 := by
  intro k
  induction k with
  | zero => intro z h; rw [leb_lt (by simpa using h)]; simp
  | succ k ih =>
    intro z h
    by_cases hz : z < 128
    · rw [leb_lt hz]; simp
    · rw [leb_ge (by omega)]
      have : z / 128 < 128 ^ (k + 1) := by
        rw [Nat.div_lt_iff_lt_mul (by omega)]; rw [Nat.pow_succ] at h; exact h
      have := ih _ this
      simp; omega
theorem zig_lt {n : Int} (h1 : -4611686018427387903 ≤ n) (h2 : n ≤ 4611686018427387903) : zig n ≤ 9223372036854775806 := by
  unfold zig; split <;> omega
theorem zag_zig (n : Int) : zag (zig n) = n := by unfold zag zig; split <;> split <;> omega
theorem zig_zag (z : Nat) : zig (zag z) = z := by unfold zag zig; split <;> split <;> omega

def enc (n : Int) : List UInt8 := leb (zig n)
theorem enc_len_le {n : Int} (h1 : -4611686018427387903 ≤ n) (h2 : n ≤ 4611686018427387903) : (enc n).length ≤ 9 :=
  leb_len_le 8 _ (by have := zig_lt h1 h2; omega)
theorem enc_len_pos (n : Int) : 0 < (enc n).length := leb_len_pos _


/-- The laws' pick. -/
def pickZ (c n : Int) : Int := (if c < 0 then -(c + 1) else c) % n
theorem pickZ_nonneg (c : Int) {n : Int} (h : 1 ≤ n) : 0 ≤ pickZ c n := Int.emod_nonneg _ (by omega)
theorem pickZ_lt (c : Int) {n : Int} (h : 1 ≤ n) : pickZ c n < n := Int.emod_lt_of_pos _ (by omega)

/-- The bytes of leb, as integers. -/
def lebI (z : Nat) : List Int := if z < 128 then [(z : Int)] else ((z : Int) % 128 + 128) :: lebI (z / 128)
termination_by z
decreasing_by omega
theorem lebI_lt {z : Nat} (h : z < 128) : lebI z = [(z : Int)] := by rw [lebI, if_pos h]
theorem lebI_ge {z : Nat} (h : 128 ≤ z) : lebI z = ((z : Int) % 128 + 128) :: lebI (z / 128) := by rw [lebI, if_neg (by omega)]
theorem lebI_eq (z : Nat) : lebI z = (leb z).map fun b => (b.toNat : Int) := by
  induction z using Nat.strongRecOn with
  | _ z ih =>
    by_cases h : z < 128
    · rw [lebI_lt h, leb_lt h]; simp; omega
    · rw [lebI_ge (by omega), leb_ge (by omega), ih (z / 128) (by omega)]; simp; omega
theorem lebI_len (z : Nat) : (lebI z).length = (leb z).length := by rw [lebI_eq]; simp

/-- What Int reads from group i on, z being the sum of the groups before. -/
def dec (i z : Nat) : List UInt8 → Option (Nat × Nat)
  | [] => none
  | b :: l => if 9 ≤ i then none else if 128 ≤ b.toNat then dec (i + 1) (z + b.toNat % 128 * 128 ^ i) l
    else if (b.toNat = 0 ∧ 0 < i) ∨ 9223372036854775806 < z + b.toNat % 128 * 128 ^ i then none else some (z + b.toNat % 128 * 128 ^ i, i + 1)


theorem dec_sound : ∀ (l : List UInt8) (i z y k : Nat), dec i z l = some (y, k) → ∃ r, y = z + r * 128 ^ i ∧ k = i + (leb r).length ∧ l.take (leb r).length = leb r ∧ (0 < i → r ≠ 0) ∧ y ≤ 9223372036854775806
  | [], i, z, y, k, h => by simp [dec] at h
  | b :: l, i, z, y, k, h => by
    have hb := UInt8.toNat_lt b
    rw [dec] at h
    split at h
    · cases h
    · split at h
      · rename_i h128
        obtain ⟨r, hy, hk, ht, hr, hm⟩ := dec_sound l _ _ _ _ h
        have hr0 := hr (by omega)
        have e1 : (b.toNat % 128 + 128 * r) / 128 = r := by omega
        have e2 : UInt8.ofNat ((b.toNat % 128 + 128 * r) % 128 + 128) = b := by
          rw [show (b.toNat % 128 + 128 * r) % 128 + 128 = b.toNat by omega]; simp
        have e3 : leb (b.toNat % 128 + 128 * r) = b :: leb r := by rw [leb_ge (by omega), e1, e2]
        refine ⟨b.toNat % 128 + 128 * r, ?_, ?_, ?_, fun _ => by omega, hm⟩
        · rw [hy, Nat.pow_succ, Nat.add_mul]
          rw [show r * (128 ^ i * 128) = 128 * r * 128 ^ i by rw [← Nat.mul_assoc, Nat.mul_comm (r * 128 ^ i), Nat.mul_assoc]]
          omega
        · rw [e3, hk]; simp; omega
        · rw [e3]; simp [ht]
      · split at h
        · cases h
        · rename_i h1 h2 h3
          simp only [Option.some.injEq, Prod.mk.injEq] at h
          have e : leb b.toNat = [b] := by rw [leb_lt (by omega)]; simp
          have hmod : b.toNat % 128 = b.toNat := by omega
          rw [hmod] at h h3
          exact ⟨b.toNat, h.1.symm, by rw [e]; exact h.2.symm, by rw [e]; rfl, fun hi h0 => h3 (.inl ⟨h0, hi⟩), by omega⟩

theorem dec_complete (r : Nat) : ∀ (i z : Nat) (q : List UInt8), i + (leb r).length ≤ 9 → (0 < i → r ≠ 0) → z + r * 128 ^ i ≤ 9223372036854775806 → dec i z (leb r ++ q) = some (z + r * 128 ^ i, i + (leb r).length) := by
  induction r using Nat.strongRecOn with
  | _ r ih =>
    intro i z q h9 hr hm
    by_cases h : r < 128
    · rw [leb_lt h] at h9 ⊢
      simp only [List.length_singleton] at h9 ⊢
      have e : (UInt8.ofNat r).toNat = r := by simp; omega
      have e2 : r % 128 = r := by omega
      simp only [List.singleton_append]
      rw [dec, if_neg (by omega), e, if_neg (by omega), e2, if_neg]
      rintro (⟨h0, hi⟩ | h)
      · exact hr hi h0
      · omega
    · rw [leb_ge (by omega)] at h9 ⊢
      have e : (UInt8.ofNat (r % 128 + 128)).toNat = r % 128 + 128 := by simp; omega
      have e3 : (z + (r % 128 + 128) % 128 * 128 ^ i) + r / 128 * 128 ^ (i + 1) = z + r * 128 ^ i := by
        rw [show (r % 128 + 128) % 128 = r % 128 by omega, Nat.pow_succ]
        have : r = r % 128 + 128 * (r / 128) := by omega
        conv => rhs; rw [this, Nat.add_mul]
        rw [show r / 128 * (128 ^ i * 128) = 128 * (r / 128) * 128 ^ i by rw [← Nat.mul_assoc, Nat.mul_comm (r / 128 * 128 ^ i), Nat.mul_assoc]]
        omega
      simp only [List.length_cons] at h9 ⊢
      rw [List.cons_append, dec, if_neg (by omega), e, if_pos (by omega), ih (r / 128) (by omega) _ _ _ (by omega) (fun _ => by omega) (by omega), e3]
      congr 2; omega

/-- Int undoes PutInt, whatever follows. -/
theorem dec_leb (z : Nat) (q : List UInt8) (h : z ≤ 9223372036854775806) : dec 0 0 (leb z ++ q) = some (z, (leb z).length) := by
  have hl := leb_len_le 8 z (by omega)
  have := dec_complete z 0 0 q (by omega) (by omega) (by simpa using h)
  simpa using this
/-- What Int accepts is what PutInt returns. -/
theorem dec_some {l : List UInt8} {z k : Nat} (h : dec 0 0 l = some (z, k)) : z ≤ 9223372036854775806 ∧ k = (leb z).length ∧ l.take k = leb z := by
  obtain ⟨r, hy, hk, ht, _, hm⟩ := dec_sound l 0 0 z k h
  simp at hy
  subst hy
  simp at hk
  subst hk
  exact ⟨hm, rfl, ht⟩
theorem dec_le {l : List UInt8} {z k : Nat} (h : dec 0 0 l = some (z, k)) : k ≤ l.length := by
  obtain ⟨_, hk, ht⟩ := dec_some h
  have := congrArg List.length ht
  rw [List.length_take, ← hk] at this
  omega
theorem zag_bd {z : Nat} (h : z ≤ 9223372036854775806) : -4611686018427387903 ≤ zag z ∧ zag z ≤ 4611686018427387903 := by
  unfold zag; split <;> omega

end Putlog
/- WireLeaf: Contracts of the leaf functions of layer 1: fold, unfold, pick. -/
namespace Go.Proofs.YtcamncipkofgkaaDoor
open Go.RowKit
open Putlog

theorem ret_intk {k : IntKind} {a b : Int} (h : a = b) : Ending.returned (.int k a) = .returned (.int k b) := by rw [h]

set_option maxHeartbeats 400000 in
theorem fold_any (n : Int) (w : World) (h0 : -4611686018427387903 ≤ n) (h2 : n ≤ 4611686018427387903) :
    Calls Tryd.prog 110 #[.int .i64 n] w fun e w' => e = .returned (.int .u64 (zig n : Nat)) ∧ w = w' := by
  by_cases h1 : n < 0
  · go_enter Tryd.func110, Tryd.ntmps110
    go_wp2
    go_ret
    exact ⟨ret_intk (show 2 * -n - 1 = _ by unfold zig; rw [if_pos h1]; omega), rfl⟩
  · go_enter Tryd.func110, Tryd.ntmps110
    go_wp2
    go_ret
    exact ⟨ret_intk (show 2 * n = _ by unfold zig; rw [if_neg (by omega)]; omega), rfl⟩
set_option maxHeartbeats 400000 in
theorem unfold_any (z : Int) (w : World) (h1 : 0 ≤ z) (h2 : z ≤ 9223372036854775806) :
    Calls Tryd.prog 111 #[.int .u64 z] w fun e w' => e = .returned (.int .i64 (zag z.toNat)) ∧ w = w' := by
  by_cases h : z % 2 = 1
  · have h3 : (z % 2 == 1) = true := by simp [h]
    go_enter Tryd.func111, Tryd.ntmps111
    go_wp2
    go_ret
    exact ⟨ret_intk (show -(z / 2) - 1 = _ by unfold zag; rw [if_pos (by omega)]; omega), rfl⟩
  · have h3 : (z % 2 == 1) = false := by simp [h]
    go_enter Tryd.func111, Tryd.ntmps111
    go_wp2
    go_ret
    exact ⟨ret_intk (show (z / 2) = _ by unfold zag; rw [if_neg (by omega)]; omega), rfl⟩
end Go.Proofs.YtcamncipkofgkaaDoor
/- WireGroups: The contract of the function that groups returns: what it yields. -/
namespace Go.Proofs.YtcamncipkofgkaaDoor
open Go.RowKit Go.Shelf Putlog
attribute [local go_sem] Oper.semAt_some

set_option maxRecDepth 100000 in
set_option maxHeartbeats 1000000 in
theorem groups1_stops (F : Fence) (n : Nat) (hg : F.fn 112) (hro : F.round = none) (hn : 1 ≤ n) (Bz : Nat) (z : Nat) (hz : z ≤ 9223372036854775806) (w : World)
    (hlt : Bz < w.heap.size) (hc : w.cell? ⟨Bz, 0, none⟩ = some (.int .u64 (z : Int))) :
    SeqStops F n Tryd.prog 112 #[.pointer (some ⟨Bz, 0, none⟩)] (fun v : Int => Value.int .u8 v) (fun xs => xs = lebI z) (fun pre => pre <+: lebI z) 9 w := fun l J Jx W hW _ _ hY h0 => by
  have hcW : W.cell? ⟨Bz, 0, none⟩ = some (.int .u64 (z : Int)) := (hW.cell (p := ⟨Bz, 0, none⟩) hlt).trans hc
  refine callsIn_of_wp Tryd.func112 rfl hg ?_ hro
  simp only [Tryd.ntmps112, List.size_toArray, List.length_cons, List.length_nil, Nat.reduceAdd, Nat.reduceSub, Array.replicate_succ, Array.replicate_zero, List.push_toArray, List.append_toArray, List.nil_append, List.cons_append]
  have hlen := leb_len_le 8 z (by omega)
  rw [← lebI_len] at hlen
  clear hc
  gi_wp2
  clear hcW
  gi_loopw [3] (fun p wr => ∃ (pre : List Int) (r : Nat), p = .int .u64 (r : Int) ∧ lebI z = pre ++ lebI r ∧ (r : Int) ≤ 9223372036854775806 ∧ J pre wr)
    (fun p wr => (intOf p).toNat)
  case atStart => exact ⟨[], z, rfl, rfl, by omega, h0⟩
  case round =>
    obtain ⟨pre, r, rfl, hx, hr, hJs⟩ := hrel
    have hpre : pre.length < 9 := by
      have := lebI_len r; have := leb_len_pos r; rw [hx, List.length_append] at hlen; omega
    clear hlen hz
    by_cases hlt0 : r < 128
    · rw [lebI_lt hlt0] at hx
      obtain ⟨fn, tmps, assign, body, hy, hR⟩ := hY pre (r : Int) wr hJs hpre
      have hlt : (r : Int) < 128 := by omega
      clear hlt0
      have HX := Lib.hid hx
      clear hx hpre
      have hr0 : 0 ≤ (r : Int) := by omega
      gi_wp2
      refine hR.mono ?_
      rintro e W1 (⟨rfl, hJ1, _⟩ | ⟨rfl, hx1⟩)
      · gi_wp2
        go_end0
        exact ⟨⟨_, rfl⟩, .inl ⟨_, HX.out.symm, hJ1⟩⟩
      · gi_wp2
        go_end0
        exact ⟨⟨_, rfl⟩, .inr ⟨_, by rw [HX.out]; exact List.prefix_refl _, hx1⟩⟩
    · rw [lebI_ge (z := r) (by omega)] at hx
      obtain ⟨fn, tmps, assign, body, hy, hR⟩ := hY pre ((r : Int) % 128 + 128) wr hJs hpre
      have hlt : 128 ≤ (r : Int) := by omega
      clear hlt0
      have HX := Lib.hid hx
      clear hx hpre
      have hr0 : 0 ≤ (r : Int) := by omega
      gi_wp2
      refine hR.mono ?_
      rintro e W1 (⟨rfl, hJ1, _⟩ | ⟨rfl, hx1⟩)
      · gi_wp2
        go_roundw
        case rel => exact ⟨pre ++ [(r : Int) % 128 + 128], r / 128, by go_num, by rw [HX.out]; simp, by omega, hJ1⟩
        case measure => simp [intOf]; omega
      · gi_wp2
        refine bodyPost_ret (results_none rfl _ _ _) rfl ?_
        exact ⟨⟨_, rfl⟩, .inr ⟨_, by rw [HX.out]; exact ⟨lebI (r / 128), by simp⟩, hx1⟩⟩
end Go.Proofs.YtcamncipkofgkaaDoor
