/- ClockAgrees: what the law's body answers. -/
import Derived.Test.YtebhalcoemkomaaClkAgreesH
import Derived.Test.YtebhalcoemkomaaClkSane
import Derived.Test.YtebhalcoemkomaaClkCourseW
namespace Go.Proofs.Ytebhalcoemkomaa
open Go.RowKit Putlog

/-- Spells as cells. -/
def spC (r : Sp) : List Value := [.int .i64 r.1, .int .i64 r.2]
def svals (l : List Sp) : List Value := l.flatMap spC
theorem svals_len : ∀ l : List Sp, (svals l).length = l.length * 2
  | [] => rfl
  | r :: l => by rw [svals, List.flatMap_cons, List.length_append, show (l.flatMap spC).length = l.length * 2 from svals_len l, List.length_cons]; simp [spC]; omega
theorem svals_snoc (l : List Sp) (r : Sp) : svals (l ++ [r]) = svals l ++ spC r := by simp [svals]
theorem svals_get : ∀ (l : List Sp) (j : Nat), j < l.length → (svals l)[j * 2]? = some (.int .i64 (l.getD j default).1) ∧ (svals l)[j * 2 + 1]? = some (.int .i64 (l.getD j default).2)
  | [], j, h => by simp at h
  | r :: l, 0, _ => by simp [svals, spC]
  | r :: l, j + 1, h => by
    have ih := svals_get l j (by simpa using h)
    have e : svals (r :: l) = spC r ++ svals l := rfl
    have l3 : (spC r).length = 2 := rfl
    rw [e, List.getElem?_append_right (by rw [l3]; omega), List.getElem?_append_right (by rw [l3]; omega), l3, show (j + 1) * 2 - 2 = j * 2 by omega, show (j + 1) * 2 + 1 - 2 = j * 2 + 1 by omega]
    simpa using ih
theorem owns_sps {w : World} {B : Nat} {t : TypeId} {v : Value} {l : List Sp} (h : w.ownsRow B t 2 v l.length (svals l)) : ∃ a c, v = .slice a l.length c ∧ l.length ≤ c ∧ (c : Int) ≤ 9223372036854775807 ∧ SpsIn w a l ∧ ∀ g o, a = some ⟨g, o, none⟩ → B ≤ g := by
  have h0 := h
  obtain ⟨_, hv | ⟨g, cap, cur, rfl, hg, hh, h1, h2, h3, h4⟩⟩ := h
  · obtain ⟨h1, h2⟩ := hv
    exact ⟨none, 0, by rw [h1, h2], by omega, by omega, .inl (List.eq_nil_of_length_eq_zero h2), fun g o e => by cases e⟩
  · refine ⟨some ⟨g, 0, none⟩, cap, rfl, h1, by unfold maxLen at h2; omega, .inr ⟨g, 0, rfl, fun j hj => ?_⟩, fun g' o e => by cases e; exact hg⟩
    obtain ⟨e0, e1⟩ := svals_get l j hj
    rw [Nat.zero_add]
    exact ⟨(h0.cellAt (j * 2) (by omega)).trans e0, (h0.cellAt (j * 2 + 1) (by omega)).trans e1⟩
theorem owns_spat {w : World} {B : Nat} {t : TypeId} {v : Value} {l : List Sp} (h : w.ownsRow B t 2 v l.length (svals l)) (hok : SpsOk l) : SpsAt w v l := by
  obtain ⟨a, c, h1, h2, h3, h4, _⟩ := owns_sps h
  exact ⟨⟨a, c, h1, h2, h3, h4⟩, hok⟩
theorem news_sp (W : World) (r : Sp) (t : TypeId) : ∀ j u, (spC r)[j]? = some u → (W.alloc (.cells #[.int .i64 r.1, .int .i64 r.2] t)).cell? ((⟨W.heap.size, 0, none⟩ : Addr).add j) = some u
  | 0, u, h => by
    simp [spC] at h; subst h
    exact (cell_of_row _ W.heap.size 0 _ t (0, 0) (heap_alloc_new W _)).trans rfl
  | 1, u, h => by
    simp [spC] at h; subst h
    exact (cell_of_row _ W.heap.size 1 _ t (0, 0) (heap_alloc_new W _)).trans rfl
  | j + 2, u, h => by simp [spC] at h
theorem one_sp (r : Sp) : ∀ u ∈ spC r, u.oneCell' = true := by intro u hu; simp [spC] at hu; rcases hu with rfl | rfl <;> rfl
theorem info_sp : (Try.prog.info? 32).map (fun i => (i.zero, i.size, i.bytes)) = some (some (.agg #[.int .i64 0, .int .i64 0]), 2, 16) := by kernel_rfl
theorem sps_cut {w : World} {a : Option Addr} {c : Nat} {l : List Sp} (h : SpsAt w (.slice a l.length c) l) (m : Nat) (hm : m ≤ l.length) : SpsAt w (.slice a m c) (l.take m) := by
  obtain ⟨⟨a', c', he, h1, h2, h3⟩, h4⟩ := h
  cases he
  have hl : (l.take m).length = m := by rw [List.length_take]; omega
  refine ⟨⟨a, c, by rw [hl], by omega, h2, ?_⟩, fun r hr => h4 r (List.mem_of_mem_take hr)⟩
  rcases h3 with h3 | ⟨g, o, e, h3⟩
  · subst h3; exact .inl (by simp)
  · refine .inr ⟨g, o, e, fun j hj => ?_⟩
    have := h3 j (by omega)
    rwa [List.getD_eq_getElem?_getD, List.getElem?_take_of_lt (by omega), ← List.getD_eq_getElem?_getD]
/-- Spells drawn to few seconds. -/
def nearL (l : List Sp) : List Sp := l.map fun p => (pkN p.1 40, pkN p.2 40)
theorem nearL_take {l : List Sp} {k : Nat} (h : k < l.length) : nearL (l.take (k + 1)) = nearL (l.take k) ++ [(pkN (l.getD k default).1 40, pkN (l.getD k default).2 40)] := by
  rw [sps_take h]; simp [nearL]
theorem nearL_ok (l : List Sp) : SpsOk (nearL l) := fun r hr => by
  obtain ⟨p, _, rfl⟩ := List.mem_map.1 hr
  have h1 := pkN_bounds p.1 (n := 40) (by decide)
  have h2 := pkN_bounds p.2 (n := 40) (by decide)
  exact ⟨⟨by dsimp only; omega, by dsimp only; omega⟩, ⟨by dsimp only; omega, by dsimp only; omega⟩⟩

set_option maxRecDepth 100000 in
set_option maxHeartbeats 8000000 in
theorem Agrees_calls (l0 : List Sp) (v : Value) (s : Int) (W : World) (h : SpsAt W v l0) (hs : I64 s) :
    Calls Try.prog 8 #[v, .int .i64 s] W fun e w' => e = .returned (.bool true) ∧ Below W.heap.size W w' := by
  have HSS := Lib.hid h
  obtain ⟨⟨a, c, rfl, hc, hcb, _⟩, _⟩ := h
  have HSN := Lib.hid (fun w => pick_any s 42 hs.1 hs.2 (by decide) (by decide) w)
  obtain ⟨s0, s1⟩ := pkN_bounds s (n := 42) (by decide)
  obtain ⟨m, hm⟩ : ∃ m : Nat, m = min l0.length 12 := ⟨_, rfl⟩
  have HS := Lib.hid (sps_cut HSS.out m (by omega))
  have hmi : min (l0.length : Int) 12 = (m : Int) := by omega
  have hml : (l0.take m).length = m := by rw [List.length_take]; omega
  have hm12 : (m : Int) ≤ 12 := by omega
  have hmc : (m : Int) ≤ c := by omega
  have hln : (l0.length : Int) ≤ c := by omega
  obtain ⟨l, hl⟩ : ∃ l, l0.take m = l := ⟨_, rfl⟩
  rw [hl] at HS hml
  have HML := Lib.hid hml
  have HAG := Lib.hid (fun w (hB : Below W.heap.size W w) => agrees_any l (by omega) s _ w (HS.out.via hB))
  have hin : SpsIn W a l := by
    obtain ⟨a', c', he, _, _, hin⟩ := HS.out.at_
    cases he
    exact hin
  have hok := HS.out.ok
  have HI := Lib.hid hin
  have HK := Lib.hid hok
  clear hm hml hl hs hin hok
  generalize pkN s 42 = S at *
  generalize l0.length = n0 at *
  go_enter Try.func8, Try.ntmps8
  go_wp2_with fail
  refine (sane_any W).mono ?_
  rintro e w1 ⟨rfl, hB⟩
  have HW := Lib.hid hB
  clear hB
  go_wp2_with fail
  have HPK := Lib.hid (fun x (hx : I64 x) w => pick_any x 40 hx.1 hx.2 (by decide) (by decide) w)
  clear hmi hmc hln
  go_loopw [6, 7] (fun u i wr => ∃ k : Nat, k ≤ m ∧ i = .int .i64 k ∧ wr.ownsRow w1.heap.size 32 2 u (nearL (l.take k)).length (svals (nearL (l.take k))) ∧ Below w1.heap.size w1 wr) (fun _ i _ => m - (intOf i).toNat)
  case atStart => exact ⟨0, Nat.zero_le _, rfl, World.ownsRow_nil _ _ _ _, Below.refl _ _⟩
  case round =>
    obtain ⟨k, hk, rfl, ho, hB⟩ := hrel
    have HO := Lib.hid ho
    have HB := Lib.hid hB
    clear ho hB
    by_cases hlt : k < m
    · have hlt' : (k : Int) < m := by omega
      have hkl : k < l.length := by have := HML.out; omega
      obtain ⟨g, o, rfl, c0, c1⟩ := ((HI.out.via HW.out).via HB.out).get hkl
      have hgl : g < w1.heap.size := by
        obtain ⟨g', o', hh, c0', _⟩ := (HI.out.via HW.out).get hkl
        cases hh
        exact lt_of_cell c0'
      obtain ⟨ix, iy⟩ := HK.out _ (sps_mem hkl)
      have HT := Lib.hid (nearL_take hkl)
      have HPL : Hid ((nearL (l.take k)).length = k) := by show _ = _; simp [nearL]; omega
      obtain ⟨P, hP⟩ : ∃ P, nearL (l.take k) = P := ⟨_, rfl⟩
      rw [hP] at HT HPL HO
      rw [HPL.out] at HO
      clear hkl hP
      generalize l.getD k default = r at *
      obtain ⟨x, y⟩ := r
      dsimp only at c0 c1 ix iy HT
      obtain ⟨i0, hj, hz0, hz1, hz2⟩ := info_parts info_sp
      have HJ0 := Lib.hid hj
      have HZ0 := Lib.hid hz0
      have HZ1 := Lib.hid hz1
      have HZ2 := Lib.hid hz2
      have HR1 : Hid (k + 1 ≤ maxLen) := by show _ ≤ _; unfold maxLen; omega
      have HR2 : Hid ((k + 1) * 16 ≤ 140737488355328) := by show _ ≤ _; omega
      have HR3 : Hid (w1.heap.size ≤ (wr.drew.alloc (.cells #[.int .i64 (pkN x 40), .int .i64 (pkN y 40)] 32)).heap.size) := by show _ ≤ _; have := HB.out.size; simp; omega
      clear hj hz0 hz1 hz2
      have HOD := Lib.hid (HO.out.drew.alloc (.cells #[.int .i64 (pkN x 40), .int .i64 (pkN y 40)] 32))
      have hwr : w1.heap.size ≤ wr.heap.size := HB.out.size
      go_wp2_with fail
      go_region_held3 (fun w' => w'.cell? ⟨g, o + k * 2, none⟩ = some (.int .i64 x) ∧ w'.cell? ⟨g, o + k * 2 + 1, none⟩ = some (.int .i64 y) ∧ Below w1.heap.size w1 w')
        (first | exact ⟨c0, c1, HB.out.drew⟩ | assumption | exact s3Ends (by assumption) (alloc_below _ _) | exact s3Grown (w := wr.drew.alloc (.cells #[.int .i64 (pkN x 40), .int .i64 (pkN y 40)] 32)) ⟨cellA (W := wr.drew) _ c0, cellA (W := wr.drew) _ c1, HB.out.drew.alloc hwr _⟩ HOD.out hgrow3 hgl (Nat.le_refl _)) (first
        | (go_at_call 19; (with_reducible refine (HPK.out _ (by assumption) _).mono ?_); rintro e u3 ⟨rfl, rfl⟩)
        | (refine step_append_own rfl _ _ 27 rfl w1.heap.size 32 i0 (.agg #[.int .i64 0, .int .i64 0]) 2 16 Try.underlying27 HJ0.out HZ0.out HZ1.out HZ2.out rfl (by decide) u6 k (svals P) (by rfl) HOD.out ⟨wr.heap.size, 0, none⟩ 1 1 (spC (pkN x 40, pkN y 40)) (by rfl) rfl (news_sp _ (pkN x 40, pkN y 40) _) (one_sp _) HR1.out HR2.out HR3.out (fun v' w4 hown3 hgrow3 => ?_)))
      all_goals
        have HN4 : Hid (w4.ownsRow w1.heap.size 32 2 v' (P ++ [(pkN x 40, pkN y 40)]).length (svals (P ++ [(pkN x 40, pkN y 40)]))) := by
          show World.ownsRow _ _ _ _ _ _ _
          rw [svals_snoc, List.length_append, HPL.out]
          exact hown3
        have HB4 : Hid (Below w1.heap.size w1 w4) := And.right (And.right (by assumption))
        clear hown3 hgrow3
        go_wp2_with fail
        go_roundw
        case rel => exact ⟨k + 1, by omega, by go_num, by rw [HT.out]; exact HN4.out, HB4.out⟩
        case measure => simp [intOf]; omega
    · obtain rfl : k = m := by omega
      have HTK : Hid (l.take k = l) := List.take_of_length_le (by have := HML.out; omega)
      rw [HTK.out] at HO
      have HSP := Lib.hid (owns_spat HO.out (nearL_ok l))
      have HA2 := Lib.hid (fun w (hB : Below wr.heap.size wr w) => agrees_any (nearL l) (by simp [nearL]; have := HML.out; omega) (S - 1) _ w (HSP.out.via hB))
      have HWR := Lib.hid (belowVia HB.out HW.out)
      clear HTK hlt hk HPK
      go_wp2_with fail
      refine (HAG.out _ HWR.out).mono ?_
      rintro e w5 ⟨rfl, hB⟩
      have HB5 := Lib.hid hB
      clear hB HAG
      go_wp2_with fail
      refine (HSN.out _).mono ?_
      rintro e w6 ⟨rfl, rfl⟩
      go_wp2_with fail
      refine (HA2.out _ HB5.out).mono ?_
      rintro e w7 ⟨rfl, hB⟩
      have HB7 := Lib.hid (belowVia hB HB5.out)
      clear hB
      go_wp2_with fail
      go_ret
      exact ⟨rfl, belowVia HB7.out HWR.out⟩
end Go.Proofs.Ytebhalcoemkomaa
