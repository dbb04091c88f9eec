/- ClockMoves: what the law's body answers. -/
import Derived.Maps.AppendAt
import Derived.Test.YtebhalcoemkomaaClkSoundP
namespace Go.Proofs.Ytebhalcoemkomaa
open Go.RowKit Putlog

theorem news_at (W : World) (r : Rd) (t : TypeId) {b : Nat} (hb : b = W.heap.size) : ∀ j u, (rdC r)[j]? = some u → (W.alloc (.cells #[.int .i64 r.1, .int .i64 r.2.1, .int .i64 r.2.2] t)).cell? ((⟨b, 0, none⟩ : Addr).add j) = some u := by
  subst hb; exact news_rd W r t
/-- A clock under way, in a box. -/
structure BuildAt (B qb : Nat) (d : Int) (l : List Rd) (v : Value) (w : World) : Prop where
  box : w.heap[qb]? = some (.cells #[.int .i64 d, v] 24 (0, 0))
  row : w.ownsRow B 50 3 v l.length (rvals l)
theorem BuildAt.via {B qb : Nat} {d : Int} {l : List Rd} {v : Value} {w w' : World} (h : BuildAt B qb d l v w) (hB : Below w.heap.size w w') : BuildAt B qb d l v w' := ⟨heap_below hB h.box, owns_below h.row hB⟩
theorem moveR_take {n : Int} {rs : List Rd} {k : Nat} (h : k < rs.length) : moveR n (rs.take (k + 1)) = moveR n (rs.take k) ++ [((rs.getD k default).1, (rs.getD k default).2.1 + n, (rs.getD k default).2.2 + n)] := by
  rw [rds_take h]; simp [moveR]
/-- What At answers: three numbers. -/
def AtIs (d l : Int) (rs : List Rd) (f g e : Int) : Prop := (e = 0 ∧ f = winF d l rs ∧ g = winG d l rs ∧ f ≤ g) ∨ (e = 50 ∧ f = 0 ∧ g = 0)
theorem at_three (d l : Int) (rs : List Rd) : ∃ f g e, AtIs d l rs f g e ∧ (atOk d rs l = true ↔ e = 0) ∧ ∀ v w, RdsAt w v rs → Calls Try.prog 20 #[.agg #[.int .i64 d, v], .int .i64 l] w fun r w' => r = .returned (.tuple #[.int .i64 f, .int .i64 g, .int .i64 e]) ∧ Below w.heap.size w w' := by
  cases hok : atOk d rs l with
  | true => exact ⟨_, _, 0, .inl ⟨rfl, rfl, rfl, (atOk_iff.1 hok).2.2.2⟩, by simp, fun v w h => at_ok d l rs v w h hok⟩
  | false => exact ⟨0, 0, 50, .inr ⟨rfl, rfl, rfl⟩, by simp, fun v w h => at_no d l rs v w h hok⟩
theorem moveR_ok {d s n : Int} {rates : List Int} {rs : List Rd} (h : MadeOf d s rates rs) (hs0 : 0 ≤ s) (hs1 : s < 1000) (n0 : 0 ≤ n) (n1 : n ≤ 100000) : RdsOk (moveR n rs) := fun r hr => by
  obtain ⟨q, hq, rfl⟩ := List.mem_map.1 hr
  have := readOf_bounds h.d0 h.d1 hs0 hs1 (h.reads q hq)
  exact ⟨⟨by dsimp only; omega, by dsimp only; omega⟩, ⟨by dsimp only; omega, by dsimp only; omega⟩, ⟨by dsimp only; omega, by dsimp only; omega⟩⟩

set_option maxRecDepth 100000 in
set_option maxHeartbeats 8000000 in
theorem Moves_calls (drift start : Int) (rates : List Int) (A : List Rd) (v u : Value) (by_ local_ : Int) (W : World) (h0 : I64 drift) (h1 : I64 start) (hr : NumsAt W v rates) (hri : ∀ x ∈ rates, I64 x) (hA : RdsAt W u A) (h4 : I64 by_) (h5 : I64 local_) :
    Calls Try.prog 9 #[.int .i64 drift, .int .i64 start, v, u, .int .i64 by_, .int .i64 local_] W fun e w' => e = .returned (.bool true) ∧ Below W.heap.size W w' := by
  have HM := Lib.hid (fun w (hB : Below W.heap.size W w) => made_any drift start rates A v u w h0 h1 (hr.via hB) hri (hA.via hB))
  have HN := Lib.hid (fun w => pick_any by_ 100000 h4.1 h4.2 (by decide) (by decide) w)
  have HO := Lib.hid (fun w => pick_any local_ 5000 h5.1 h5.2 (by decide) (by decide) w)
  obtain ⟨n0, n1⟩ := pkN_bounds by_ (n := 100000) (by decide)
  obtain ⟨o0, o1⟩ := pkN_bounds local_ (n := 5000) (by decide)
  have HST := Lib.hid (pkN_bounds start (n := 1000) (by decide))
  clear h0 h1 hr hri hA h4 h5
  generalize pkN by_ 100000 = n at *
  generalize pkN local_ 5000 = O at *
  go_enter Try.func9, Try.ntmps9
  go_wp2_with fail
  refine (sane_any W).mono ?_
  rintro e w1 ⟨rfl, hB⟩
  have HW := Lib.hid hB
  clear hB
  go_wp2_with fail
  refine (HM.out _ HW.out).mono ?_
  rintro e w2 ⟨rs, x, rfl, hm, hx, hB⟩
  have HW := Lib.hid (belowVia hB HW.out)
  have HMD := Lib.hid hm
  have HX := Lib.hid hx
  obtain ⟨xa, xc, hxe, _, _, _⟩ := hx.at_
  subst hxe
  clear hm hx hB
  go_wp2_with fail
  have HW := Lib.hid (belowVia (alloc_below w2 (.cells #[.int .i64 (pkN drift 101), .slice xa rs.length xc] 24)) HW.out)
  have HC := Lib.hid (ClockAt.new (d := pkN drift 101) HX.out)
  clear HX
  generalize w2.alloc (.cells #[.int .i64 (pkN drift 101), .slice xa rs.length xc] 24) = w3 at *
  generalize w2.heap.size = q at *
  refine (HN.out _).mono ?_
  rintro e w4 ⟨rfl, rfl⟩
  go_wp2_with fail
  refine (HO.out _).mono ?_
  rintro e w4 ⟨rfl, rfl⟩
  have HDD := Lib.hid (And.intro HMD.out.d0 HMD.out.d1)
  have HRB := Lib.hid (fun r hr => readOf_bounds HMD.out.d0 HMD.out.d1 HST.out.1 HST.out.2 (HMD.out.reads r hr))
  have HMO := Lib.hid (moveR_ok HMD.out HST.out.1 HST.out.2 n0 (by omega))
  have HMW := Lib.hid (fun hne hz => move_win (d := pkN drift 101) (l := O) (n := n) (rs := rs) HMD.out.d0 HMD.out.d1 n0 (by omega) o0 (by omega) hne (fun r hr => by have := HRB.out r hr; omega) hz)
  have hx12 := HMD.out.few
  obtain ⟨f1, g1, e1, at1, _, hc1⟩ := at_three (pkN drift 101) O rs
  obtain ⟨f2, g2, e2, at2, _, hc2⟩ := at_three (pkN drift 101) O (moveR n rs)
  have HC1 := Lib.hid (hc1 (.slice xa rs.length xc))
  have HC2 := Lib.hid hc2
  have AT1 := Lib.hid at1
  have AT2 := Lib.hid at2
  clear hc1 hc2 at1 at2 HM HN HO
  generalize pkN drift 101 = d at *
  have c0 := HC.out.c0
  have c1 := HC.out.c1
  go_wp2_with fail
  clear c0 c1
  have y1 := heap_alloc_new w3 (.cells #[.int .i64 d, .slice none 0 0] 24)
  have z1 : (w3.alloc (.cells #[.int .i64 d, .slice none 0 0] 24)).heap.size = w3.heap.size + 1 := by simp
  have HBD : Hid (BuildAt (w3.heap.size + 1) w3.heap.size d [] (.slice none 0 0) (w3.alloc (.cells #[.int .i64 d, .slice none 0 0] 24))) := ⟨y1, World.ownsRow_nil _ _ _ _⟩
  have HB3 := Lib.hid (alloc_below w3 (.cells #[.int .i64 d, .slice none 0 0] 24))
  have HZ := Lib.hid (Nat.le_of_eq z1.symm)
  clear y1 z1
  generalize w3.alloc (.cells #[.int .i64 d, .slice none 0 0] 24) = w5 at *
  obtain ⟨nn, hnn⟩ : ∃ nn, nn = rs.length := ⟨_, rfl⟩
  have HNN := Lib.hid hnn
  have hnb : (nn : Int) ≤ 12 := by omega
  rw [← hnn] at HC HC1
  clear hnn hx12
  go_loopw [18] (fun i wr => ∃ k : Nat, k ≤ nn ∧ i = .int .i64 k ∧ (∃ v2, BuildAt (w3.heap.size + 1) w3.heap.size d (moveR n (rs.take k)) v2 wr) ∧ Below w3.heap.size w3 wr ∧ w3.heap.size + 1 ≤ wr.heap.size) (fun i _ => 12 - (intOf i).toNat)
  case atStart => exact ⟨0, Nat.zero_le _, rfl, ⟨_, HBD.out⟩, HB3.out, HZ.out⟩
  case round =>
    obtain ⟨k, hk, rfl, ⟨v2, hbd⟩, hB, hz⟩ := hrel
    have HB := Lib.hid hB
    have HBD := Lib.hid hbd
    have HZ := Lib.hid hz
    clear hB hbd hz
    have c0 := (HC.out.via HB.out).c0
    have c1 := (HC.out.via HB.out).c1
    by_cases hlt : k < nn
    · have hlt' : (k : Int) < nn := by omega
      have hkl : k < rs.length := by have := HNN.out; omega
      obtain ⟨⟨xa', xc', hxe, _, _, hin⟩, _⟩ := (HC.out.via HB.out).rd
      cases hxe
      obtain ⟨g, o, rfl, t0, t1, t2⟩ := hin.get hkl
      have hb := HRB.out _ (rds_mem hkl)
      have HT := Lib.hid (moveR_take (n := n) hkl)
      have HPL : Hid ((moveR n (rs.take k)).length = k) := by show _ = _; simp [moveR]; omega
      clear hkl hin
      generalize rs.getD k default = r at *
      obtain ⟨x, y, z⟩ := r
      dsimp only at t0 t1 t2 hb HT
      obtain ⟨b0, b1, b2, b3, b4⟩ := hb
      obtain ⟨P, hP⟩ : ∃ P, moveR n (rs.take k) = P := ⟨_, rfl⟩
      rw [hP] at HT HPL HBD
      clear hP
      obtain ⟨a2, cp2, rfl, hc2, hcb2, _, _⟩ := owns_rds HBD.out.row
      rw [HPL.out] at HBD hc2
      have m0 := (cell_of_row _ w3.heap.size 0 _ _ _ HBD.out.box).trans (by rfl : _ = some (.int .i64 d))
      have m1 := (cell_of_row _ w3.heap.size 1 _ _ _ HBD.out.box).trans (by rfl : _ = some (.slice a2 k cp2))
      have mlt := lt_of_cell m0
      have HB2 := Lib.hid (belowVia (alloc_below wr (.cells #[.int .i64 x, .int .i64 y, .int .i64 z] 50)) HB.out)
      have HM2 := Lib.hid (heap_below (alloc_below wr (.cells #[.int .i64 x, .int .i64 y, .int .i64 z] 50)) HBD.out.box)
      have HO2 : Hid ((wr.alloc (.cells #[.int .i64 x, .int .i64 y, .int .i64 z] 50)).ownsRow (w3.heap.size + 1) 50 3 (.slice a2 k cp2) k (rvals P)) := by
        have := HBD.out.row.alloc (.cells #[.int .i64 x, .int .i64 y, .int .i64 z] 50)
        rw [HPL.out] at this
        exact this
      have HZ2' : Hid (w3.heap.size + 1 ≤ (wr.alloc (.cells #[.int .i64 x, .int .i64 y, .int .i64 z] 50)).heap.size) := Nat.le_trans HZ.out (by simp)
      obtain ⟨i0, hj, hz0, hz1, hz2⟩ := info_parts info_rd
      have HJ0 := Lib.hid hj
      have HZ0 := Lib.hid hz0
      have HZ1 := Lib.hid hz1
      have HZ2 := Lib.hid hz2
      have HR1 : Hid (k + 1 ≤ maxLen) := by show _ ≤ _; unfold maxLen; omega
      have HR2 : Hid ((k + 1) * 24 ≤ 140737488355328) := by show _ ≤ _; omega
      clear hj hz0 hz1 hz2
      have HWA : Hid (∃ WA, WA = wr.alloc (.cells #[.int .i64 x, .int .i64 y, .int .i64 z] 50)) := ⟨_, rfl⟩
      have HR3 : Hid (w3.heap.size + 1 ≤ ((wr.alloc (.cells #[.int .i64 x, .int .i64 y, .int .i64 z] 50)).alloc (.cells #[.int .i64 x, .int .i64 (y + n), .int .i64 (z + n)] 50)).heap.size) := Nat.le_trans HZ2'.out (by simp)
      go_wp2_with (at_builtin; refine wpList_append_own_at _ rfl _ _ 22 rfl (w3.heap.size + 1) 50 i0 (.agg #[.int .i64 0, .int .i64 0, .int .i64 0]) 3 24 Try.underlying22 HJ0.out HZ0.out HZ1.out HZ2.out rfl (by decide) (.slice a2 k cp2) k (rvals P) (by rfl) (HO2.out.alloc _) ⟨wr.heap.size + 1, 0, none⟩ 1 1 (rdC (x, y + n, z + n)) (by rfl) rfl (news_at _ (x, y + n, z + n) _ (by simp)) (one_rd _) HR1.out HR2.out HR3.out ?_; intro v' w6 hown hgrow _ _; have HO3 : Hid (w6.ownsRow (w3.heap.size + 1) 50 3 v' (P ++ [(x, y + n, z + n)]).length (rvals (P ++ [(x, y + n, z + n)]))) := (by show World.ownsRow _ _ _ _ _ _ _; rw [rvals_snoc, List.length_append, HPL.out]; exact hown); have HG3 := Lib.hid hgrow; have HOB := Lib.hid (HO2.out.alloc (.cells #[.int .i64 x, .int .i64 (y + n), .int .i64 (z + n)] 50)).lt; clear hown hgrow; have HM3 := Lib.hid (grown_heap HG3.out (heap_below (alloc_below (wr.alloc (.cells #[.int .i64 x, .int .i64 y, .int .i64 z] 50)) (.cells #[.int .i64 x, .int .i64 (y + n), .int .i64 (z + n)] 50)) HM2.out) (fun e => by have := (HOB.out _ e.symm).1; omega)); have HB3' := Lib.hid ((belowVia (alloc_below (wr.alloc (.cells #[.int .i64 x, .int .i64 y, .int .i64 z] 50)) (.cells #[.int .i64 x, .int .i64 (y + n), .int .i64 (z + n)] 50)) HB2.out).grown HG3.out (Nat.le_trans HB2.out.size (alloc_below (wr.alloc (.cells #[.int .i64 x, .int .i64 y, .int .i64 z] 50)) _).size) (fun j hj => by have := (HOB.out j hj).1; omega)); have HZ3 := Lib.hid (Nat.le_trans (Nat.le_trans HZ2'.out (alloc_below (wr.alloc (.cells #[.int .i64 x, .int .i64 y, .int .i64 z] 50)) (.cells #[.int .i64 x, .int .i64 (y + n), .int .i64 (z + n)] 50)).size) HG3.out.size); have q0 := (cell_of_row _ w3.heap.size 0 _ _ _ HM3.out).trans (by rfl : _ = some (.int .i64 d)); have q1 := (cell_of_row _ w3.heap.size 1 _ _ _ HM3.out).trans (by rfl : _ = some _); have r1 := frozen_of_row _ w3.heap.size 1 _ _ HM3.out; obtain ⟨a3, cp3, rfl, _, _, _, _⟩ := owns_rds HO3.out)
      go_roundw
      case rel =>
        have h := heap_setCell_same w6 w3.heap.size 1 _ _ (.slice a3 (P.length + 1) cp3) HM3.out
        have hl : (P ++ [(x, y + n, z + n)]).length = P.length + 1 := by simp
        refine ⟨k + 1, by omega, by go_num, ⟨.slice a3 (P ++ [(x, y + n, z + n)]).length cp3, by rw [HT.out]; exact ⟨by rw [hl]; exact h, owns_other HO3.out (by omega)⟩⟩, HB3'.out.setCell (Nat.le_refl _) _, by rw [World.size_setCell]; exact HZ3.out⟩
      case measure => simp [intOf]; omega
    · obtain rfl : k = nn := by omega
      have HTK : Hid (rs.take k = rs) := List.take_of_length_le (by have := HNN.out; omega)
      rw [HTK.out] at HBD
      have HL2 : Hid ((moveR n rs).length = k) := by show _ = _; simp [moveR]; exact HNN.out.symm
      obtain ⟨a2, cp2, rfl, hc2, hcb2, _, _⟩ := owns_rds HBD.out.row
      have HRD : Hid (RdsAt wr (.slice a2 (moveR n rs).length cp2) (moveR n rs)) := owns_at HBD.out.row HMO.out
      have HMC : Hid (ClockAt d (.slice a2 (moveR n rs).length cp2) (moveR n rs) w3.heap.size wr) := ⟨(cell_of_row _ _ 0 _ _ _ HBD.out.box).trans rfl, (cell_of_row _ _ 1 _ _ _ HBD.out.box).trans rfl, HRD.out⟩
      have HCC := Lib.hid (HC.out.via HB.out)
      have HW := Lib.hid (belowVia HB.out HW.out)
      clear hlt hk HBD HRD
      go_wp2_with fail
      clear c0 c1
      refine (HC1.out _ HCC.out.rd).mono ?_
      rintro e w7 ⟨rfl, hB⟩
      have HW := Lib.hid (belowVia hB HW.out)
      have HCC := Lib.hid (HCC.out.via hB)
      have HMC := Lib.hid (HMC.out.via hB)
      clear hB
      have m0 := HMC.out.c0
      have m1 := HMC.out.c1
      go_wp2_with fail
      clear m0 m1
      refine (HC2.out _ _ HMC.out.rd).mono ?_
      rintro e w8 ⟨rfl, hB⟩
      have HW := Lib.hid (belowVia hB HW.out)
      have HCC := Lib.hid (HCC.out.via hB)
      clear hB
      have c1 := HCC.out.c1
      by_cases hk0 : k = 0
      · subst hk0
        go_wp2_with fail
        go_ret
        exact ⟨rfl, HW.out⟩
      · have hkb : ((k : Int) == 0) = false := by rw [beq_eq_false_iff_ne]; omega
        have HNE : Hid (rs ≠ []) := fun e => hk0 (by rw [HNN.out, e]; rfl)
        clear hk0
        rcases AT1.out with ⟨rfl, hf1, hg1, hfg1⟩ | ⟨rfl, rfl, rfl⟩
        · rcases AT2.out with ⟨rfl, hf2, hg2, _⟩ | ⟨rfl, rfl, rfl⟩
          · have p1 : 0 ≤ f1 := by rw [hf1]; exact winF_nonneg
            have p2 : g1 ≤ 10000000 := by rw [hg1]; exact winG_upto
            by_cases hz : f1 = 0
            · have hzb : (f1 == 0) = true := by rw [beq_iff_eq]; exact hz
              clear hz hf1 hg1 hf2 hg2
              go_wp2_with fail
              go_ret
              exact ⟨rfl, HW.out⟩
            · have hzb : (f1 == 0) = false := by rw [beq_eq_false_iff_ne]; exact hz
              obtain ⟨e1, e2⟩ := HMW.out HNE.out (by rw [← hf1]; exact hz)
              rw [← hf1, ← hf2] at e1
              rw [← hg1, ← hg2] at e2
              have hz2 : (f2 == 0) = false := by rw [beq_eq_false_iff_ne]; omega
              have hx1 : (f2 == f1 + n) = true := by rw [beq_iff_eq]; exact e1
              have hx2 : (g2 == g1 + n) = true := by rw [beq_iff_eq]; exact e2
              have hg0 : 0 ≤ g1 := by omega
              clear hz hf1 hg1 hf2 hg2 e1 e2
              go_wp2_with fail
              go_ret
              exact ⟨rfl, HW.out⟩
          · go_wp2_with fail
            go_ret
            exact ⟨rfl, HW.out⟩
        · go_wp2_with fail
          go_ret
          exact ⟨rfl, HW.out⟩
end Go.Proofs.Ytebhalcoemkomaa
