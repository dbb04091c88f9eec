/- The walk of PlaneSeams. -/
import Derived.Test.YtliligehofjegaaPlnOn
import Derived.Test.YtliligehofjegaaPlnSeamW
import Derived.Test.YtliligehofjegaaPlnSane
import Derived.Deep.DeepCutAuto
namespace Pln
/-- On both boundaries. -/
def BdP (a b : List Pt) (p : Pt) : Prop := insP a p = 0 ∧ insP b p = 0
/-- How many places have been counted. -/
structure Cnt (a b : List Pt) (H : Prop) (c i k : Nat) : Prop where
  le : c ≤ i * 41 + k
  one : H → c ≤ 1
  was : H → c = 1 → ∃ p, On p ∧ BdP a b p ∧ (p.1 < i ∨ p.1 = i ∧ p.2 < k)
theorem cnt_start (a b : List Pt) (H : Prop) : Cnt a b H 0 0 0 := ⟨by omega, fun _ => by omega, fun _ h => by omega⟩
theorem Cnt.no {a b : List Pt} {H : Prop} {c i k : Nat} (h : Cnt a b H c i k) : Cnt a b H c i (k + 1) :=
  ⟨by have := h.le; omega, h.one, fun x y => by obtain ⟨p, h1, h2, h3⟩ := h.was x y; exact ⟨p, h1, h2, by omega⟩⟩
theorem Cnt.row {a b : List Pt} {H : Prop} {c i : Nat} (h : Cnt a b H c i 41) : Cnt a b H c (i + 1) 0 :=
  ⟨by have := h.le; omega, h.one, fun x y => by obtain ⟨p, h1, h2, h3⟩ := h.was x y; have := h1.y1; exact ⟨p, h1, h2, by omega⟩⟩
theorem Cnt.yes {a b : List Pt} {H : Prop} {c i k : Nat} (h : Cnt a b H c i k) (hi : i ≤ 40) (hk : k ≤ 40) (hb : BdP a b ((i : Int), (k : Int))) (hu : H → ∀ p q, On p → On q → BdP a b p → BdP a b q → p = q) : Cnt a b H (c + 1) i (k + 1) := by
  have ho : On ((i : Int), (k : Int)) := ⟨by dsimp only; omega, by dsimp only; omega, by dsimp only; omega, by dsimp only; omega⟩
  refine ⟨by have := h.le; omega, fun x => ?_, fun x y => ⟨_, ho, hb, .inr ⟨rfl, by dsimp only; omega⟩⟩⟩
  have h1 := h.one x
  by_cases e : c = 1
  · obtain ⟨p, p1, p2, p3⟩ := h.was x e
    have := hu x p _ p1 ho p2 hb
    rw [this] at p3
    dsimp only at p3; omega
  · omega
theorem bd_both {a b : List Pt} (va : Val a) (vb : Val b) {p : Pt} (hp : On p) : BdP a b p ↔ posP a p = 0 ∧ posP b p = 0 := by unfold BdP; rw [insP_eq va hp, insP_eq vb hp]
theorem seams_none {a b : List Pt} (va : Val a) (vb : Val b) (h : seamP a b = none) : overP a b = false → ∀ p q, On p → On q → BdP a b p → BdP a b q → p = q := fun ho p q op oq hp hq => by
  have hs : (sideP a b).isSome = true := by
    unfold overP at ho
    rw [(valB_iff a).2 va, (valB_iff b).2 vb] at ho
    rcases e : sideP a b with _ | x
    · rw [e] at ho; simp at ho
    · rfl
  have h1 := (bd_both va vb op).1 hp
  have h2 := (bd_both va vb oq).1 hq
  exact none_one va vb hs h op oq ⟨by omega, by omega⟩ ⟨by omega, by omega⟩
structure SeamF (a b : List Pt) (P Q : Pt) : Prop where
  oP : On P
  oQ : On Q
  ne : P ≠ Q
  over : overP a b = false
  on : ∀ p, On p → (BdP a b p ↔ segB P Q p = true)
  left : ∀ c ∈ a, 0 ≤ turn P Q c
theorem seams_some {a b : List Pt} (va : Val a) (vb : Val b) {P Q : Pt} (h : seamP a b = some (P, Q)) : SeamF a b P Q := by
  have I := seam_some va vb h
  have K : ∀ {c : Pt}, Comn a b c → On c := fun {c} hc => by
    rcases hc.1 with h | h
    · obtain ⟨i, hi, rfl⟩ := mem_vx h; exact va.on i hi
    · obtain ⟨i, hi, rfl⟩ := mem_vx h; exact vb.on i hi
  refine ⟨K I.cP, K I.cQ, I.ne, ?_, fun p hp => by rw [bd_both va vb hp]; exact seam_on I p, I.left⟩
  unfold overP
  rcases e : sideP a b with _ | x
  · unfold seamP at h; rw [e] at h; simp at h
  · simp
end Pln
namespace Go.Proofs.Ytliligehofjegaa
open Go.RowKit Go.Shelf Pln
set_option maxRecDepth 100000 in
set_option maxHeartbeats 4000000 in
theorem seams_w (x y : List Pt) (hx : (x.length : Int) ≤ 9223372036854775807) (hy : (y.length : Int) ≤ 9223372036854775807) (how : Int) (i0 : I64 how) (v1 v2 : Value) (w : World) (h1 : PtsAt w v1 x) (h2 : PtsAt w v2 y) :
    Calls Try.prog 7 #[v1, v2, .int .i64 how] w fun e w' => e = .returned (.bool true) ∧ Below w.heap.size w w' := by
  have HPR := Lib.hid (fun w1 (hB : Below w.heap.size w w1) => pair_w x y hx hy how i0 v1 v2 w1 (h1.via hB) (h2.via hB))
  obtain ⟨⟨a1, c1, rfl, _, _, _⟩, _⟩ := h1
  obtain ⟨⟨a2, c2, rfl, _, _, _⟩, _⟩ := h2
  clear hx hy i0
  generalize x.length = xn at *
  generalize y.length = yn at *
  go_enter Try.func7, Try.ntmps7
  go_wp2_with fail
  refine (sane_w _).mono ?_
  rintro e w1 ⟨rfl, hB1⟩
  go_wp2_with fail
  refine (HPR.out _ hB1).mono ?_
  rintro e w2 ⟨a, b, va, vb, rfl, hva, hvb, hra, hrb, hB2⟩
  obtain ⟨ga, oa, ca, na, rfl, hPA⟩ := poly_of hra hva
  obtain ⟨gb, ob, cb, nb, rfl, hPB⟩ := poly_of hrb hvb
  have HA := Lib.hid hPA
  have HB := Lib.hid hPB
  have HBW := Lib.hid (belowStep hB1 hB2)
  obtain ⟨hn3, hn8⟩ := hPA.bd
  have hn8b : (na : Int) ≤ 8 := by omega
  clear hB1 hB2 hra hrb hva hvb hPA hPB HPR
  have KS := Lib.hid (fun w1 (hB : Below w2.heap.size w2 w1) => seam_w a b HA.out.len HB.out.len _ _ w1 (HA.out.at_.via hB) (HB.out.at_.via hB))
  have KT := Lib.hid (fun w1 (hB : Below w2.heap.size w2 w1) => seam_w b a HB.out.len HA.out.len _ _ w1 (HB.out.at_.via hB) (HA.out.at_.via hB))
  have KO := Lib.hid (fun w1 (hB : Below w2.heap.size w2 w1) => overlap_w a b HA.out.len HB.out.len _ _ w1 (HA.out.at_.via hB) (HB.out.at_.via hB))
  have KA := Lib.hid (fun w1 (hB : Below w2.heap.size w2 w1) (p1 p2 : Int) (hp : On (p1, p2)) => inside_w a HA.out.len (p1, p2) (on_i64 hp) _ w1 (HA.out.at_.via hB))
  have KB := Lib.hid (fun w1 (hB : Below w2.heap.size w2 w1) (p1 p2 : Int) (hp : On (p1, p2)) => inside_w b HB.out.len (p1, p2) (on_i64 hp) _ w1 (HB.out.at_.via hB))
  unfold pv at KA KB
  dsimp only at KA KB
  rw [seam_eq HA.out.v HB.out.v] at KT
  rcases hsm : seamP a b with _ | ⟨⟨P1, P2⟩, ⟨Q1, Q2⟩⟩
  · as_aux_lemma =>
    rw [hsm] at KS KT
    have HU := Lib.hid (seams_none HA.out.v HB.out.v hsm)
    unfold seamV sv at KS KT
    dsimp only [Option.map] at KS KT
    clear hsm
    go_wp2_with fail
    refine (KS.out _ (Below.refl _ _)).mono ?_
    rintro e z1 ⟨rfl, hB⟩
    have HX := Lib.hid (heap_alloc_new z1 (.cells #[.int .i64 0, .int .i64 0, .int .i64 0, .int .i64 0] 48))
    have HC1 := Lib.hid (belowStep hB (alloc_below z1 (.cells #[.int .i64 0, .int .i64 0, .int .i64 0, .int .i64 0] 48)))
    clear hB
    go_wp2_with fail
    refine (KT.out _ HC1.out).mono ?_
    rintro e z2 ⟨rfl, hB⟩
    have HX := Lib.hid (heap_below hB HX.out)
    have HC2 := Lib.hid (belowStep HC1.out hB)
    clear hB
    have hA := alloc_below z2 (.cells #[.int .i64 0, .int .i64 0, .int .i64 0, .int .i64 0] 48)
    have HY := Lib.hid (heap_alloc_new z2 (.cells #[.int .i64 0, .int .i64 0, .int .i64 0, .int .i64 0] 48))
    have HX := Lib.hid (heap_below hA HX.out)
    have HC3 := Lib.hid (belowStep HC2.out hA)
    clear hA
    obtain ⟨W, hW⟩ : ∃ W, W = z2.alloc (.cells #[.int .i64 0, .int .i64 0, .int .i64 0, .int .i64 0] 48) := ⟨_, rfl⟩
    obtain ⟨bx, hbx⟩ : ∃ bx, bx = z1.heap.size := ⟨_, rfl⟩
    obtain ⟨by_, hby⟩ : ∃ bx, bx = z2.heap.size := ⟨_, rfl⟩
    go_upto_region 7 with fail
    rw [← hbx] at HX ⊢
    rw [← hby] at HY ⊢
    rw [← hW] at HX HY HC3 ⊢
    clear hW hbx hby
    have x0 := cell_heap (i := 0) HX.out rfl
    have x1 := cell_heap (i := 1) HX.out rfl
    have x2 := cell_heap (i := 2) HX.out rfl
    have x3 := cell_heap (i := 3) HX.out rfl
    have y0 := cell_heap (i := 0) HY.out rfl
    have y1 := cell_heap (i := 1) HY.out rfl
    have y2 := cell_heap (i := 2) HY.out rfl
    have y3 := cell_heap (i := 3) HY.out rfl
    clear HX HY
    generalize overP a b = ov at *
    go_cut [76] (fun sx wx => sx = .bool false ∧ Below w2.heap.size w2 wx)
    case first =>
      go_wp2_with fail
      refine (KO.out _ HC3.out).mono ?_
      rintro e W4 ⟨rfl, hB⟩
      have HC4 := Lib.hid (belowStep HC3.out hB)
      clear hB
      rcases ov with _ | _
      · go_wp2_with fail
        go_meet
        case rel => exact ⟨rfl, HC4.out⟩
      · go_wp2_with fail
        go_meet
        case rel => exact ⟨rfl, HC4.out⟩
    case rest =>
      clear x0 x1 x2 x3 y0 y1 y2 y3
      obtain ⟨rfl, hBc⟩ := hcut
      have HC3' := Lib.hid hBc
      clear hBc
      obtain ⟨W4, hW4⟩ : ∃ W4, W4 = wc := ⟨_, rfl⟩
      rw [← hW4] at HC3' ⊢
      clear hW4
      go_wp2_with fail
      go_loopw [14, 15] (fun c i wr => ∃ cN iN : Nat, c = .int .i64 cN ∧ i = .int .i64 iN ∧ iN ≤ 41 ∧ Cnt a b (ov = false) cN iN 0 ∧ Below W4.heap.size W4 wr) (fun _ i _ => 41 - (intOf i).toNat)
      case atStart => exact ⟨0, 0, rfl, rfl, by omega, cnt_start _ _ _, Below.refl _ _⟩
      case round =>
        obtain ⟨cN, iN, rfl, rfl, hi41, hcn, hB⟩ := hrel
        have HBo := Lib.hid hB
        have HCo := Lib.hid hcn
        clear hB hcn
        by_cases hi : iN ≤ 40
        · have hi' : (iN : Int) ≤ 40 := by omega
          go_wp2_with fail
          go_loopw [14, 16] (fun c k wq => ∃ cM kN : Nat, c = .int .i64 cM ∧ k = .int .i64 kN ∧ kN ≤ 41 ∧ Cnt a b (ov = false) cM iN kN ∧ Below W4.heap.size W4 wq) (fun _ k _ => 41 - (intOf k).toNat)
          case atStart => exact ⟨cN, 0, rfl, rfl, by omega, HCo.out, HBo.out⟩
          case round =>
            obtain ⟨cM, kN, rfl, rfl, hk41, hcn, hB⟩ := hrel
            have HBi := Lib.hid hB
            have HCi := Lib.hid hcn
            clear hB hcn
            by_cases hk : kN ≤ 40
            · have hk' : (kN : Int) ≤ 40 := by omega
              have hon : On ((iN : Int), (kN : Int)) := ⟨by dsimp only; omega, by dsimp only; omega, by dsimp only; omega, by dsimp only; omega⟩
              have HON := Lib.hid hon
              have hcb := HCi.out.le
              have hw1 : IntKind.i64.wrap ((cM : Int) + 1) = (cM : Int) + 1 := IntWalk.i64_in _ (by omega)
              clear hcb hon
              go_wp2_with fail
              refine (sn_at _ _ _).mono ?_
              rintro e z4 ⟨rfl, hB⟩
              have hA := alloc_below z4 (.cells #[.int .i64 iN, .int .i64 kN] 26)
              have HP5 := Lib.hid (PBox.new z4 (iN : Int) (kN : Int))
              have HC5 := Lib.hid (belowStep HBi.out (belowStep hB hA))
              clear hB hA
              obtain ⟨z5, hz5⟩ : ∃ z5, z5 = z4.alloc (.cells #[.int .i64 iN, .int .i64 kN] 26) := ⟨_, rfl⟩
              obtain ⟨bp, hbp⟩ : ∃ bp, bp = z4.heap.size := ⟨_, rfl⟩
              go_upto_region 17 with fail
              rw [← hbp, ← hz5] at HP5 ⊢
              rw [← hz5] at HC5
              clear hz5 hbp
              have e0 := HP5.out.c0
              have e1 := HP5.out.c1
              dsimp only at e0 e1
              have HKA := Lib.hid (KA.out _ (belowStep HC3'.out HC5.out) iN kN HON.out)
              have HKB := Lib.hid (fun w1 (hB : Below z5.heap.size z5 w1) => KB.out w1 (belowStep HC3'.out (belowStep HC5.out hB)) iN kN HON.out)
              have HBD : Hid (BdP a b (iN, kN) ↔ insP a (iN, kN) = 0 ∧ insP b (iN, kN) = 0) := Lib.hid Iff.rfl
              have cu := insP_cases a (iN, kN)
              have cv := insP_cases b (iN, kN)
              generalize insP a (iN, kN) = u at *
              generalize insP b (iN, kN) = v at *
              go_wp2_with fail
              refine HKA.out.mono ?_
              rintro e z6 ⟨rfl, hB⟩
              have HC6 := Lib.hid (belowStep HC5.out hB)
              have HP6 := Lib.hid (HP5.out.via hB)
              have HKB := Lib.hid (HKB.out _ hB)
              clear e0 e1 hB
              have e0 := HP6.out.c0
              have e1 := HP6.out.c1
              dsimp only at e0 e1
              by_cases hu : u = 0
              · subst hu
                go_wp2_with fail
                refine HKB.out.mono ?_
                rintro e z7 ⟨rfl, hB⟩
                have HC7 := Lib.hid (belowStep HC6.out hB)
                have HP7 := Lib.hid (HP6.out.via hB)
                clear e0 e1 hB
                have e0 := HP7.out.c0
                have e1 := HP7.out.c1
                dsimp only at e0 e1
                by_cases hv : v = 0
                · subst hv
                  have hbd : BdP a b (iN, kN) := HBD.out.2 ⟨by trivial, by trivial⟩
                  have HNX := Lib.hid (HCi.out.yes hi hk hbd HU.out)
                  have hbt : True := trivial
                  go_wp2_with fail
                  go_roundw
                  case rel => exact ⟨cM + 1, kN + 1, by go_num, by go_num, by omega, HNX.out, HC7.out⟩
                  case measure => simp [intOf]; omega
                · have d1 : decide (v = 0) = false := decide_eq_false hv
                  have d2 : (v == 0) = false := by simp [hv]
                  have hbd : ¬ BdP a b (iN, kN) := fun h => hv (HBD.out.1 h).2
                  go_wp2_with fail
                  go_roundw
                  case rel => exact ⟨cM, kN + 1, rfl, by go_num, by omega, HCi.out.no, HC7.out⟩
                  case measure => simp [intOf]; omega
              · have d1 : decide (u = 0) = false := decide_eq_false hu
                have d2 : (u == 0) = false := by simp [hu]
                have hbd : ¬ BdP a b (iN, kN) := fun h => hu (HBD.out.1 h).1
                go_wp2_with fail
                go_roundw
                case rel => exact ⟨cM, kN + 1, rfl, by go_num, by omega, HCi.out.no, HC6.out⟩
                case measure => simp [intOf]; omega
            · obtain rfl : kN = 41 := by omega
              go_wp2_with fail
              go_roundw
              case rel => exact ⟨cM, iN + 1, rfl, by go_num, by omega, HCi.out.row, HBi.out⟩
              case measure => simp [intOf]; omega
        · obtain rfl : iN = 41 := by omega
          go_wp2_with fail
          refine (KO.out _ (belowStep HC3'.out HBo.out)).mono ?_
          rintro e zz ⟨rfl, hB⟩
          have HCF := Lib.hid (belowStep HBW.out (belowStep (belowStep HC3'.out HBo.out) hB))
          clear hB
          rcases ov with _ | _
          · have h1 : (cN : Int) ≤ 1 := by have := HCo.out.one rfl; omega
            go_wp2_with fail
            go_ret
            exact ⟨rfl, HCF.out⟩
          · go_wp2_with fail
            go_ret
            exact ⟨rfl, HCF.out⟩
  · as_aux_lemma =>
    rw [hsm] at KS KT
    have HF := Lib.hid (seams_some HA.out.v HB.out.v hsm)
    unfold seamV sv at KS KT
    dsimp only [Option.map] at KS KT
    clear hsm
    rw [HF.out.over] at KO
    go_wp2_with fail
    refine (KS.out _ (Below.refl _ _)).mono ?_
    rintro e z1 ⟨rfl, hB⟩
    have HX := Lib.hid (heap_alloc_new z1 (.cells #[.int .i64 P1, .int .i64 P2, .int .i64 Q1, .int .i64 Q2] 48))
    have HC1 := Lib.hid (belowStep hB (alloc_below z1 (.cells #[.int .i64 P1, .int .i64 P2, .int .i64 Q1, .int .i64 Q2] 48)))
    clear hB
    go_wp2_with fail
    refine (KT.out _ HC1.out).mono ?_
    rintro e z2 ⟨rfl, hB⟩
    have HX := Lib.hid (heap_below hB HX.out)
    have HC2 := Lib.hid (belowStep HC1.out hB)
    clear hB
    have hA := alloc_below z2 (.cells #[.int .i64 Q1, .int .i64 Q2, .int .i64 P1, .int .i64 P2] 48)
    have HY := Lib.hid (heap_alloc_new z2 (.cells #[.int .i64 Q1, .int .i64 Q2, .int .i64 P1, .int .i64 P2] 48))
    have HX := Lib.hid (heap_below hA HX.out)
    have HC3 := Lib.hid (belowStep HC2.out hA)
    clear hA
    obtain ⟨W, hW⟩ : ∃ W, W = z2.alloc (.cells #[.int .i64 Q1, .int .i64 Q2, .int .i64 P1, .int .i64 P2] 48) := ⟨_, rfl⟩
    obtain ⟨bx, hbx⟩ : ∃ bx, bx = z1.heap.size := ⟨_, rfl⟩
    obtain ⟨by_, hby⟩ : ∃ bx, bx = z2.heap.size := ⟨_, rfl⟩
    go_upto_region 7 with fail
    rw [← hbx] at HX ⊢
    rw [← hby] at HY ⊢
    rw [← hW] at HX HY HC3 ⊢
    clear hW hbx hby
    have x0 := cell_heap (i := 0) HX.out rfl
    have x1 := cell_heap (i := 1) HX.out rfl
    have x2 := cell_heap (i := 2) HX.out rfl
    have x3 := cell_heap (i := 3) HX.out rfl
    have y0 := cell_heap (i := 0) HY.out rfl
    have y1 := cell_heap (i := 1) HY.out rfl
    have y2 := cell_heap (i := 2) HY.out rfl
    have y3 := cell_heap (i := 3) HY.out rfl
    clear HY
    go_cut [76] (fun sx wx => sx = .bool false ∧ Below W.heap.size W wx)
    case first =>
      rcases pt_cases P1 P2 Q1 Q2 with ⟨h, h'⟩ | h | ⟨h, h'⟩
      · exact absurd (by rw [h, h']) HF.out.ne
      · have d1 : decide (P1 = Q1) = false := decide_eq_false h
        have d2 : (P1 == Q1) = false := by simp [h]
        go_wp2_with fail
        refine (KO.out _ HC3.out).mono ?_
        rintro e W4 ⟨rfl, hB⟩
        have HC4 := Lib.hid hB
        clear hB
        go_wp2_with fail
        go_meet
        case rel => exact ⟨rfl, HC4.out⟩
      · subst h
        have d1 : decide (P2 = Q2) = false := decide_eq_false h'
        have d2 : (P2 == Q2) = false := by simp [h']
        go_wp2_with fail
        refine (KO.out _ HC3.out).mono ?_
        rintro e W4 ⟨rfl, hB⟩
        have HC4 := Lib.hid hB
        clear hB
        go_wp2_with fail
        go_meet
        case rel => exact ⟨rfl, HC4.out⟩
    case rest =>
      clear x0 x1 x2 x3 y0 y1 y2 y3
      obtain ⟨rfl, hBc⟩ := hcut
      have HC3' := Lib.hid (belowStep HC3.out hBc)
      have HX := Lib.hid (heap_below hBc HX.out)
      clear hBc
      obtain ⟨W4, hW4⟩ : ∃ W4, W4 = wc := ⟨_, rfl⟩
      rw [← hW4] at HC3' HX ⊢
      clear hW4
      go_wp2_with fail
      go_loopw [14, 15] (fun c i wr => ∃ cN iN : Nat, c = .int .i64 cN ∧ i = .int .i64 iN ∧ iN ≤ 41 ∧ Cnt a b False cN iN 0 ∧ Below W4.heap.size W4 wr) (fun _ i _ => 41 - (intOf i).toNat)
      case atStart => exact ⟨0, 0, rfl, rfl, by omega, cnt_start _ _ _, Below.refl _ _⟩
      case round =>
        obtain ⟨cN, iN, rfl, rfl, hi41, hcn, hB⟩ := hrel
        have HBo := Lib.hid hB
        have HCo := Lib.hid hcn
        clear hB hcn
        by_cases hi : iN ≤ 40
        · have hi' : (iN : Int) ≤ 40 := by omega
          go_wp2_with fail
          go_loopw [14, 16] (fun c k wq => ∃ cM kN : Nat, c = .int .i64 cM ∧ k = .int .i64 kN ∧ kN ≤ 41 ∧ Cnt a b False cM iN kN ∧ Below W4.heap.size W4 wq) (fun _ k _ => 41 - (intOf k).toNat)
          case atStart => exact ⟨cN, 0, rfl, rfl, by omega, HCo.out, HBo.out⟩
          case round =>
            obtain ⟨cM, kN, rfl, rfl, hk41, hcn, hB⟩ := hrel
            have HBi := Lib.hid hB
            have HCi := Lib.hid hcn
            clear hB hcn
            by_cases hk : kN ≤ 40
            · have hk' : (kN : Int) ≤ 40 := by omega
              have hon : On ((iN : Int), (kN : Int)) := ⟨by dsimp only; omega, by dsimp only; omega, by dsimp only; omega, by dsimp only; omega⟩
              have HON := Lib.hid hon
              have hcb := HCi.out.le
              have hw1 : IntKind.i64.wrap ((cM : Int) + 1) = (cM : Int) + 1 := IntWalk.i64_in _ (by omega)
              clear hcb hon
              go_wp2_with fail
              refine (sn_at _ _ _).mono ?_
              rintro e z4 ⟨rfl, hB⟩
              have hA := alloc_below z4 (.cells #[.int .i64 iN, .int .i64 kN] 26)
              have HP5 := Lib.hid (PBox.new z4 (iN : Int) (kN : Int))
              have HC5 := Lib.hid (belowStep HBi.out (belowStep hB hA))
              clear hB hA
              obtain ⟨z5, hz5⟩ : ∃ z5, z5 = z4.alloc (.cells #[.int .i64 iN, .int .i64 kN] 26) := ⟨_, rfl⟩
              obtain ⟨bp, hbp⟩ : ∃ bp, bp = z4.heap.size := ⟨_, rfl⟩
              go_upto_region 17 with fail
              rw [← hbp, ← hz5] at HP5 ⊢
              rw [← hz5] at HC5
              clear hz5 hbp
              have e0 := HP5.out.c0
              have e1 := HP5.out.c1
              dsimp only at e0 e1
              have HKA := Lib.hid (KA.out _ (belowStep HC3'.out HC5.out) iN kN HON.out)
              have HKB := Lib.hid (fun w1 (hB : Below z5.heap.size z5 w1) => KB.out w1 (belowStep HC3'.out (belowStep HC5.out hB)) iN kN HON.out)
              have HBD : Hid (BdP a b (iN, kN) ↔ insP a (iN, kN) = 0 ∧ insP b (iN, kN) = 0) := Lib.hid Iff.rfl
              have cu := insP_cases a (iN, kN)
              have cv := insP_cases b (iN, kN)
              generalize insP a (iN, kN) = u at *
              generalize insP b (iN, kN) = v at *
              go_wp2_with fail
              refine HKA.out.mono ?_
              rintro e z6 ⟨rfl, hB⟩
              have HC6 := Lib.hid (belowStep HC5.out hB)
              have HP6 := Lib.hid (HP5.out.via hB)
              have HKB := Lib.hid (HKB.out _ hB)
              clear e0 e1 hB
              have e0 := HP6.out.c0
              have e1 := HP6.out.c1
              dsimp only at e0 e1
              by_cases hu : u = 0
              · subst hu
                go_wp2_with fail
                refine HKB.out.mono ?_
                rintro e z7 ⟨rfl, hB⟩
                have HC7 := Lib.hid (belowStep HC6.out hB)
                have HP7 := Lib.hid (HP6.out.via hB)
                clear e0 e1 hB
                have e0 := HP7.out.c0
                have e1 := HP7.out.c1
                dsimp only at e0 e1
                by_cases hv : v = 0
                · subst hv
                  have hbd : BdP a b (iN, kN) := HBD.out.2 ⟨by trivial, by trivial⟩
                  have HNX := Lib.hid (HCi.out.yes hi hk hbd (fun h => h.elim))
                  have hbt : True := trivial
                  have HXk := Lib.hid (heap_below HC7.out HX.out)
                  have x0 := cell_heap (i := 0) HXk.out rfl
                  have x1 := cell_heap (i := 1) HXk.out rfl
                  have x2 := cell_heap (i := 2) HXk.out rfl
                  have x3 := cell_heap (i := 3) HXk.out rfl
                  clear HXk
                  have HSG : Hid (segB (P1, P2) (Q1, Q2) (iN, kN) = true) := Lib.hid (by exact (HF.out.on _ HON.out).1 hbd)
                  go_wp2_with fail
                  refine (on_w P1 P2 Q1 Q2 iN kN HF.out.oP HF.out.oQ HON.out _).mono ?_
                  rintro e z8 ⟨rfl, hB⟩
                  rw [HSG.out]
                  have HC8 := Lib.hid (belowStep HC7.out hB)
                  clear hB
                  go_wp2_with fail
                  go_roundw
                  case rel => exact ⟨cM + 1, kN + 1, by go_num, by go_num, by omega, HNX.out, HC8.out⟩
                  case measure => simp [intOf]; omega
                · have d1 : decide (v = 0) = false := decide_eq_false hv
                  have d2 : (v == 0) = false := by simp [hv]
                  have hbd : ¬ BdP a b (iN, kN) := fun h => hv (HBD.out.1 h).2
                  have HXk := Lib.hid (heap_below HC7.out HX.out)
                  have x0 := cell_heap (i := 0) HXk.out rfl
                  have x1 := cell_heap (i := 1) HXk.out rfl
                  have x2 := cell_heap (i := 2) HXk.out rfl
                  have x3 := cell_heap (i := 3) HXk.out rfl
                  clear HXk
                  have HSG : Hid (segB (P1, P2) (Q1, Q2) (iN, kN) = false) := Lib.hid (by rcases e : segB (P1, P2) (Q1, Q2) (iN, kN) with _ | _; rfl; exact absurd ((HF.out.on _ HON.out).2 e) hbd)
                  go_wp2_with fail
                  refine (on_w P1 P2 Q1 Q2 iN kN HF.out.oP HF.out.oQ HON.out _).mono ?_
                  rintro e z8 ⟨rfl, hB⟩
                  rw [HSG.out]
                  have HC8 := Lib.hid (belowStep HC7.out hB)
                  clear hB
                  go_wp2_with fail
                  go_roundw
                  case rel => exact ⟨cM, kN + 1, rfl, by go_num, by omega, HCi.out.no, HC8.out⟩
                  case measure => simp [intOf]; omega
              · have d1 : decide (u = 0) = false := decide_eq_false hu
                have d2 : (u == 0) = false := by simp [hu]
                have hbd : ¬ BdP a b (iN, kN) := fun h => hu (HBD.out.1 h).1
                have HXk := Lib.hid (heap_below HC6.out HX.out)
                have x0 := cell_heap (i := 0) HXk.out rfl
                have x1 := cell_heap (i := 1) HXk.out rfl
                have x2 := cell_heap (i := 2) HXk.out rfl
                have x3 := cell_heap (i := 3) HXk.out rfl
                clear HXk
                have HSG : Hid (segB (P1, P2) (Q1, Q2) (iN, kN) = false) := Lib.hid (by rcases e : segB (P1, P2) (Q1, Q2) (iN, kN) with _ | _; rfl; exact absurd ((HF.out.on _ HON.out).2 e) hbd)
                go_wp2_with fail
                refine (on_w P1 P2 Q1 Q2 iN kN HF.out.oP HF.out.oQ HON.out _).mono ?_
                rintro e z8 ⟨rfl, hB⟩
                rw [HSG.out]
                have HC8 := Lib.hid (belowStep HC6.out hB)
                clear hB
                go_wp2_with fail
                go_roundw
                case rel => exact ⟨cM, kN + 1, rfl, by go_num, by omega, HCi.out.no, HC8.out⟩
                case measure => simp [intOf]; omega
            · obtain rfl : kN = 41 := by omega
              go_wp2_with fail
              go_roundw
              case rel => exact ⟨cM, iN + 1, rfl, by go_num, by omega, HCi.out.row, HBi.out⟩
              case measure => simp [intOf]; omega
        · obtain rfl : iN = 41 := by omega
          clear HCo
          go_wp2_with fail
          go_loopw [19] (fun i wz => ∃ m : Nat, m ≤ na ∧ i = .int .i64 m ∧ Below wr.heap.size wr wz) (fun i _ => na - (intOf i).toNat)
          case atStart => exact ⟨0, by omega, rfl, Below.refl _ _⟩
          case round =>
            obtain ⟨m, hm, rfl, hB⟩ := hrel
            have HBz := Lib.hid hB
            clear hB
            have HCz := Lib.hid (belowStep HC3'.out (belowStep HBo.out HBz.out))
            by_cases hlt : m < na
            · have hlt' : (m : Int) < na := by omega
              obtain ⟨c0, c1⟩ := (HA.out.via HCz.out).cells hlt
              have HXz := Lib.hid (heap_below (belowStep HBo.out HBz.out) HX.out)
              have x0 := cell_heap (i := 0) HXz.out rfl
              have x1 := cell_heap (i := 1) HXz.out rfl
              have x2 := cell_heap (i := 2) HXz.out rfl
              have x3 := cell_heap (i := 3) HXz.out rfl
              clear HXz
              have hmem := vx_mem (l := a) (i := m) (by rw [← HA.out.hn]; exact hlt)
              have hge := HF.out.left _ hmem
              have HT := Lib.hid (turnR_w (P1, P2) (Q1, Q2) (vx a m) (on_sml HF.out.oP) (on_sml HF.out.oQ) (on_sml (HA.out.v.on m (by rw [← HA.out.hn]; exact hlt))))
              clear hmem
              generalize vx a m = q at *
              obtain ⟨q1, q2⟩ := q
              unfold pv at HT
              dsimp only at c0 c1 HT
              generalize turn (P1, P2) (Q1, Q2) (q1, q2) = t at *
              have hd1 : decide (t < 0) = false := decide_eq_false (by omega)
              go_wp2_with fail
              refine (wpIn_wide (n := 5)).1 ?_
              refine wpIn_region_T (fun w' => Below wr.drew.heap.size wr.drew w') 8 (by kernel_rfl) ?_
              have hd : Below wr.heap.size wr wr.drew := (Below.refl _ _).drew
              generalize wr.drew = wd at *
              have c0 := keptBelow hd c0
              have c1 := keptBelow hd c1
              have x0 := keptBelow hd x0
              have x1 := keptBelow hd x1
              have x2 := keptBelow hd x2
              have x3 := keptBelow hd x3
              refine wpT_tk 0 124 (v := ?_) (Below.refl _ _) rfl rfl (by rfl) (hy := fun w hw => ?_) (h := ?_)
              rotate_left
              · go_simp; with_reducible rfl
              try simp only [Act.put, List.setIfInBounds_toArray, List.set_cons_zero, List.set_cons_succ]
              refine wpT_tk 1 125 (v := ?_) (Below.refl _ _) rfl rfl (by rfl) (hy := fun w hw => ?_) (h := ?_)
              rotate_left
              · have x0 := keptBelow hw x0; have x1 := keptBelow hw x1; go_simp; with_reducible rfl
              try simp only [Act.put, List.setIfInBounds_toArray, List.set_cons_zero, List.set_cons_succ]
              refine wpT_tk 2 126 (v := ?_) (Below.refl _ _) rfl rfl (by rfl) (hy := fun w hw => ?_) (h := ?_)
              rotate_left
              · go_simp; with_reducible rfl
              try simp only [Act.put, List.setIfInBounds_toArray, List.set_cons_zero, List.set_cons_succ]
              refine wpT_tk 3 127 (v := ?_) (Below.refl _ _) rfl rfl (by rfl) (hy := fun w hw => ?_) (h := ?_)
              rotate_left
              · have x2 := keptBelow hw x2; have x3 := keptBelow hw x3; go_simp; with_reducible rfl
              try simp only [Act.put, List.setIfInBounds_toArray, List.set_cons_zero, List.set_cons_succ]
              refine wpT_tk 4 128 (v := ?_) (Below.refl _ _) rfl rfl (by rfl) (hy := fun w hw => ?_) (h := ?_)
              rotate_left
              · go_simp; with_reducible rfl
              try simp only [Act.put, List.setIfInBounds_toArray, List.set_cons_zero, List.set_cons_succ]
              refine wpT_tk 5 129 (v := ?_) (Below.refl _ _) rfl rfl (by rfl) (hy := fun w hw => ?_) (h := ?_)
              rotate_left
              · go_simp; with_reducible rfl
              try simp only [Act.put, List.setIfInBounds_toArray, List.set_cons_zero, List.set_cons_succ]
              refine wpT_tk 6 130 (v := ?_) (Below.refl _ _) rfl rfl (by rfl) (hy := fun w hw => ?_) (h := ?_)
              rotate_left
              · go_simp; with_reducible rfl
              try simp only [Act.put, List.setIfInBounds_toArray, List.set_cons_zero, List.set_cons_succ]
              refine wpT_tk 7 131 (v := ?_) (Below.refl _ _) rfl rfl (by rfl) (hy := fun w hw => ?_) (h := ?_)
              rotate_left
              · have c0 := keptBelow hw c0; have c1 := keptBelow hw c1; go_simp; with_reducible rfl
              try simp only [Act.put, List.setIfInBounds_toArray, List.set_cons_zero, List.set_cons_succ]
              refine wpT_one 8 rfl rfl (by kernel_rfl) ?_
              go_simp
              refine ⟨trivial, ?_⟩
              refine (callsIn_wide.2 (HT.out wd)).mono ?_
              rintro e u3 ⟨rfl, hB3⟩
              refine wpT_one 9 rfl rfl (by kernel_rfl) ?_
              go_simp
              refine wpT_done (by kernel_rfl) ?_ _
              have HB5 := Lib.hid (belowStep HBz.out (belowStep hd hB3))
              go_wp2_with fail
              go_roundw
              case rel =>
                refine ⟨_, _, _, _, _, _, _, _, _, _, _, _, _, _, _, _, _, _, ⟨m + 1, by omega, ?num, HB5.out⟩, rfl⟩
                go_num
              case measure => simp [intOf]; omega
            · obtain rfl : na = m := by omega
              go_wp2_with fail
              go_ret
              exact ⟨rfl, belowStep HBW.out HCz.out⟩
end Go.Proofs.Ytliligehofjegaa
