/- Several texts of layers 3 and 4, one behind the other: RatFour, RatLongP, IntTen, IntRefKit, IntRefPlus, IntRefDiv, IntRefRead. -/
import Derived.Deep.RegionHeld3
import Derived.Test.YtelckldddflmmaaGreatDoorRM4
/- RatFour: The four operations' results, as the law's helper returns them. -/
namespace Go.Proofs.YtelckldddflmmaaGreatDoor
open Go.RowKit Putlog

set_option maxRecDepth 100000 in
set_option maxHeartbeats 4000000 in
theorem four_raw (x1 x2 y1 y2 : ByteArray) (n0 d0 n1 d1 n2 d2 n3 d3 : ByteArray) (k0 k1 k2 k3 : Int)
    (H0 : ∀ w, Calls Tryz.prog 32 #[.agg #[.string x1, .string x2], .agg #[.string y1, .string y2]] w fun e w' => e = .returned (.tuple #[.agg #[.string n0, .string d0], .int .i64 k0]) ∧ Below w.heap.size w w')
    (H1 : ∀ w, Calls Tryz.prog 34 #[.agg #[.string x1, .string x2], .agg #[.string y1, .string y2]] w fun e w' => e = .returned (.tuple #[.agg #[.string n1, .string d1], .int .i64 k1]) ∧ Below w.heap.size w w')
    (H2 : ∀ w, Calls Tryz.prog 33 #[.agg #[.string x1, .string x2], .agg #[.string y1, .string y2]] w fun e w' => e = .returned (.tuple #[.agg #[.string n2, .string d2], .int .i64 k2]) ∧ Below w.heap.size w w')
    (H3 : ∀ w, Calls Tryz.prog 36 #[.agg #[.string x1, .string x2], .agg #[.string y1, .string y2]] w fun e w' => e = .returned (.tuple #[.agg #[.string n3, .string d3], .int .i64 k3]) ∧ Below w.heap.size w w')
    (W : World) :
    Calls Tryz.prog 10 #[.agg #[.string x1, .string x2], .agg #[.string y1, .string y2]] W fun e w' => e = .returned (.tuple #[.agg #[.string n0, .string d0, .string n1, .string d1, .string n2, .string d2, .string n3, .string d3], .agg #[.int .i64 k0, .int .i64 k1, .int .i64 k2, .int .i64 k3]]) ∧ Below W.heap.size W w' := by
  have H0 := Lib.hid H0
  have H1 := Lib.hid H1
  have H2 := Lib.hid H2
  have H3 := Lib.hid H3
  go_enter Tryz.func10, Tryz.ntmps10
  go_wp2_with fail
  have F0 := Lib.hid (FourAt.new W x1 x2 y1 y2)
  have HW := Lib.hid (four_below W (.cells #[.string x1, .string x2] 23) (.cells #[.string y1, .string y2] 23) (.cells #[.string ⟨#[]⟩, .string ⟨#[]⟩, .string ⟨#[]⟩, .string ⟨#[]⟩, .string ⟨#[]⟩, .string ⟨#[]⟩, .string ⟨#[]⟩, .string ⟨#[]⟩] 31) (.cells #[.int .i64 0, .int .i64 0, .int .i64 0, .int .i64 0] 33) (.cells #[.string ⟨#[]⟩, .string ⟨#[]⟩, .string ⟨#[]⟩, .string ⟨#[]⟩, .string ⟨#[]⟩, .string ⟨#[]⟩, .string ⟨#[]⟩, .string ⟨#[]⟩] 31) (.cells #[.int .i64 0, .int .i64 0, .int .i64 0, .int .i64 0] 33))
  generalize (((((W.alloc (.cells #[.string x1, .string x2] 23)).alloc (.cells #[.string y1, .string y2] 23)).alloc (.cells #[.string ⟨#[]⟩, .string ⟨#[]⟩, .string ⟨#[]⟩, .string ⟨#[]⟩, .string ⟨#[]⟩, .string ⟨#[]⟩, .string ⟨#[]⟩, .string ⟨#[]⟩] 31)).alloc (.cells #[.int .i64 0, .int .i64 0, .int .i64 0, .int .i64 0] 33)).alloc (.cells #[.string ⟨#[]⟩, .string ⟨#[]⟩, .string ⟨#[]⟩, .string ⟨#[]⟩, .string ⟨#[]⟩, .string ⟨#[]⟩, .string ⟨#[]⟩, .string ⟨#[]⟩] 31)).alloc (.cells #[.int .i64 0, .int .i64 0, .int .i64 0, .int .i64 0] 33) = v0 at *
  have HP : Hid (W.heap.size ≤ W.heap.size + 1 + 1 + 1 + 1) := by show _ ≤ _; omega
  refine (H0.out _).mono ?_
  rintro e w1 ⟨rfl, hB⟩
  have F0 := Lib.hid (F0.out.via hB)
  have HW := Lib.hid (belowVia hB HW.out)
  clear hB
  obtain ⟨a0, a1⟩ := cell2 F0.out.a
  obtain ⟨a2, a3⟩ := cell2b F0.out.a
  obtain ⟨b0, b1⟩ := cell2 F0.out.b
  obtain ⟨b2, b3⟩ := cell2b F0.out.b
  have c0 := (cell_of_row w1 _ 0 _ _ _ F0.out.r).trans (by rfl : _ = some (.string ⟨#[]⟩))
  have c1 := frozen_of_row w1 _ 0 _ _ F0.out.r
  have c2 := (cell_of_row w1 _ 1 _ _ _ F0.out.r).trans (by rfl : _ = some (.string ⟨#[]⟩))
  have c3 := frozen_of_row w1 _ 1 _ _ F0.out.r
  have d0 := (cell_of_row w1 _ 0 _ _ _ F0.out.e).trans (by rfl : _ = some (.int .i64 0))
  have d1 := frozen_of_row w1 _ 0 _ _ F0.out.e
  go_wp2_with fail
  clear a0 a1 a2 a3 b0 b1 b2 b3 c0 c1 c2 c3 d0 d1
  have F1 := F0.out.set3 0 1 0 (.string n0) (.string d0) (.int .i64 k0)
  simp only [List.setIfInBounds_toArray, List.set_cons_zero, List.set_cons_succ] at F1
  have F1 := Lib.hid F1
  have HW := Lib.hid (below_set3 HW.out HP.out 0 1 0 (.string n0) (.string d0) (.int .i64 k0))
  clear F0
  generalize ((w1.setCell ⟨W.heap.size + 1 + 1 + 1 + 1, 0, none⟩ (.string n0)).setCell ⟨W.heap.size + 1 + 1 + 1 + 1, 1, none⟩ (.string d0)).setCell ⟨W.heap.size + 1 + 1 + 1 + 1 + 1, 0, none⟩ (.int .i64 k0) = v1 at *
  refine (H1.out _).mono ?_
  rintro e w2 ⟨rfl, hB⟩
  have F1 := Lib.hid (F1.out.via hB)
  have HW := Lib.hid (belowVia hB HW.out)
  clear hB
  obtain ⟨a0, a1⟩ := cell2 F1.out.a
  obtain ⟨a2, a3⟩ := cell2b F1.out.a
  obtain ⟨b0, b1⟩ := cell2 F1.out.b
  obtain ⟨b2, b3⟩ := cell2b F1.out.b
  have c0 := (cell_of_row w2 _ 2 _ _ _ F1.out.r).trans (by rfl : _ = some (.string ⟨#[]⟩))
  have c1 := frozen_of_row w2 _ 2 _ _ F1.out.r
  have c2 := (cell_of_row w2 _ 3 _ _ _ F1.out.r).trans (by rfl : _ = some (.string ⟨#[]⟩))
  have c3 := frozen_of_row w2 _ 3 _ _ F1.out.r
  have d0 := (cell_of_row w2 _ 1 _ _ _ F1.out.e).trans (by rfl : _ = some (.int .i64 0))
  have d1 := frozen_of_row w2 _ 1 _ _ F1.out.e
  go_wp2_with fail
  clear a0 a1 a2 a3 b0 b1 b2 b3 c0 c1 c2 c3 d0 d1
  have F2 := F1.out.set3 2 3 1 (.string n1) (.string d1) (.int .i64 k1)
  simp only [List.setIfInBounds_toArray, List.set_cons_zero, List.set_cons_succ] at F2
  have F2 := Lib.hid F2
  have HW := Lib.hid (below_set3 HW.out HP.out 2 3 1 (.string n1) (.string d1) (.int .i64 k1))
  clear F1
  generalize ((w2.setCell ⟨W.heap.size + 1 + 1 + 1 + 1, 2, none⟩ (.string n1)).setCell ⟨W.heap.size + 1 + 1 + 1 + 1, 3, none⟩ (.string d1)).setCell ⟨W.heap.size + 1 + 1 + 1 + 1 + 1, 1, none⟩ (.int .i64 k1) = v2 at *
  refine (H2.out _).mono ?_
  rintro e w3 ⟨rfl, hB⟩
  have F2 := Lib.hid (F2.out.via hB)
  have HW := Lib.hid (belowVia hB HW.out)
  clear hB
  obtain ⟨a0, a1⟩ := cell2 F2.out.a
  obtain ⟨a2, a3⟩ := cell2b F2.out.a
  obtain ⟨b0, b1⟩ := cell2 F2.out.b
  obtain ⟨b2, b3⟩ := cell2b F2.out.b
  have c0 := (cell_of_row w3 _ 4 _ _ _ F2.out.r).trans (by rfl : _ = some (.string ⟨#[]⟩))
  have c1 := frozen_of_row w3 _ 4 _ _ F2.out.r
  have c2 := (cell_of_row w3 _ 5 _ _ _ F2.out.r).trans (by rfl : _ = some (.string ⟨#[]⟩))
  have c3 := frozen_of_row w3 _ 5 _ _ F2.out.r
  have d0 := (cell_of_row w3 _ 2 _ _ _ F2.out.e).trans (by rfl : _ = some (.int .i64 0))
  have d1 := frozen_of_row w3 _ 2 _ _ F2.out.e
  go_wp2_with fail
  clear a0 a1 a2 a3 b0 b1 b2 b3 c0 c1 c2 c3 d0 d1
  have F3 := F2.out.set3 4 5 2 (.string n2) (.string d2) (.int .i64 k2)
  simp only [List.setIfInBounds_toArray, List.set_cons_zero, List.set_cons_succ] at F3
  have F3 := Lib.hid F3
  have HW := Lib.hid (below_set3 HW.out HP.out 4 5 2 (.string n2) (.string d2) (.int .i64 k2))
  clear F2
  generalize ((w3.setCell ⟨W.heap.size + 1 + 1 + 1 + 1, 4, none⟩ (.string n2)).setCell ⟨W.heap.size + 1 + 1 + 1 + 1, 5, none⟩ (.string d2)).setCell ⟨W.heap.size + 1 + 1 + 1 + 1 + 1, 2, none⟩ (.int .i64 k2) = v3 at *
  refine (H3.out _).mono ?_
  rintro e w4 ⟨rfl, hB⟩
  have F3 := Lib.hid (F3.out.via hB)
  have HW := Lib.hid (belowVia hB HW.out)
  clear hB
  obtain ⟨a0, a1⟩ := cell2 F3.out.a
  obtain ⟨a2, a3⟩ := cell2b F3.out.a
  obtain ⟨b0, b1⟩ := cell2 F3.out.b
  obtain ⟨b2, b3⟩ := cell2b F3.out.b
  have c0 := (cell_of_row w4 _ 6 _ _ _ F3.out.r).trans (by rfl : _ = some (.string ⟨#[]⟩))
  have c1 := frozen_of_row w4 _ 6 _ _ F3.out.r
  have c2 := (cell_of_row w4 _ 7 _ _ _ F3.out.r).trans (by rfl : _ = some (.string ⟨#[]⟩))
  have c3 := frozen_of_row w4 _ 7 _ _ F3.out.r
  have d0 := (cell_of_row w4 _ 3 _ _ _ F3.out.e).trans (by rfl : _ = some (.int .i64 0))
  have d1 := frozen_of_row w4 _ 3 _ _ F3.out.e
  go_wp2_with fail
  clear a0 a1 a2 a3 b0 b1 b2 b3 c0 c1 c2 c3 d0 d1
  have F4 := F3.out.set3 6 7 3 (.string n3) (.string d3) (.int .i64 k3)
  simp only [List.setIfInBounds_toArray, List.set_cons_zero, List.set_cons_succ] at F4
  have F4 := Lib.hid F4
  have HW := Lib.hid (below_set3 HW.out HP.out 6 7 3 (.string n3) (.string d3) (.int .i64 k3))
  clear F3
  generalize ((w4.setCell ⟨W.heap.size + 1 + 1 + 1 + 1, 6, none⟩ (.string n3)).setCell ⟨W.heap.size + 1 + 1 + 1 + 1, 7, none⟩ (.string d3)).setCell ⟨W.heap.size + 1 + 1 + 1 + 1 + 1, 3, none⟩ (.int .i64 k3) = v4 at *
  clear H0 H1 H2 H3
  refine wp_region_held_drew (S := (fun w' => w'.heap[W.heap.size + 1 + 1 + 1 + 1]? = some (.cells [.string n0, .string d0, .string n1, .string d1, .string n2, .string d2, .string n3, .string d3].toArray 31 (0, 0)) ∧ w'.heap[W.heap.size + 1 + 1 + 1 + 1 + 1]? = some (.cells [.int .i64 k0, .int .i64 k1, .int .i64 k2, .int .i64 k3].toArray 33 (0, 0)))) (by kernel_rfl) ⟨F4.out.r, F4.out.e⟩ (fun hHeld => ?_)
  refine wpAnyH_take (i := 0) (v := .agg [.string n0, .string d0, .string n1, .string d1, .string n2, .string d2, .string n3, .string d3].toArray) rfl (by kernel_rfl) (by kernel_rfl) (by kernel_rfl) (fun _ _ _ h => h) (yieldsIf_load_mid (by rfl) _ _ rfl (W.heap.size + 1 + 1 + 1 + 1) 0 rfl [.string n0, .string d0, .string n1, .string d1, .string n2, .string d2, .string n3, .string d3] _ (fun w h => row_range h.1) Tryz.underlying31 rfl info_four) hHeld ?_
  refine wpAnyH_take (i := 1) (v := .agg [.int .i64 k0, .int .i64 k1, .int .i64 k2, .int .i64 k3].toArray) rfl (by kernel_rfl) (by kernel_rfl) (by kernel_rfl) (fun _ _ _ h => h) (yieldsIf_load_mid (by rfl) _ _ rfl (W.heap.size + 1 + 1 + 1 + 1 + 1) 0 rfl [.int .i64 k0, .int .i64 k1, .int .i64 k2, .int .i64 k3] _ (fun w h => row_range h.2) Tryz.underlying33 rfl info_errs) hHeld ?_
  refine wpAnyH_ready (rs := [2]) (by kernel_rfl) (by simp) ?_
  refine AllReadyH.cons rfl (fun K hK => ?_) AllReadyH.nil
  rw [if_pos (by rfl)]
  have ra := setCells_whole (w := v4.drew) (cs := #[.string ⟨#[]⟩, .string ⟨#[]⟩, .string ⟨#[]⟩, .string ⟨#[]⟩, .string ⟨#[]⟩, .string ⟨#[]⟩, .string ⟨#[]⟩, .string ⟨#[]⟩]) [.string n0, .string d0, .string n1, .string d1, .string n2, .string d2, .string n3, .string d3] rfl F4.out.c
  have rb := (setCells_other (W.heap.size + 1 + 1) [.string n0, .string d0, .string n1, .string d1, .string n2, .string d2, .string n3, .string d3] v4.drew 0 (W.heap.size + 1 + 1 + 1) (by omega)).trans F4.out.d
  refine wp_store_mid _ _ _ rfl (W.heap.size + 1 + 1) 0 [.string n0, .string d0, .string n1, .string d1, .string n2, .string d2, .string n3, .string d3].toArray rfl rfl (row_there (w := v4.drew) (cs := #[.string ⟨#[]⟩, .string ⟨#[]⟩, .string ⟨#[]⟩, .string ⟨#[]⟩, .string ⟨#[]⟩, .string ⟨#[]⟩, .string ⟨#[]⟩, .string ⟨#[]⟩]) F4.out.c rfl) info_four (by simp [Value.oneCell']) ?_
  refine hK _ _ ⟨(setCells_other _ _ _ _ _ (by omega)).trans F4.out.r, (setCells_other _ _ _ _ _ (by omega)).trans F4.out.e⟩ (fun hH => ?_)
  have HV := Lib.hid (below_setCells (W.heap.size + 1 + 1) (by omega) [.string n0, .string d0, .string n1, .string d1, .string n2, .string d2, .string n3, .string d3] v4.drew 0 HW.out.drew)
  clear hK
  generalize v4.drew.setCells (W.heap.size + 1 + 1) 0 [.string n0, .string d0, .string n1, .string d1, .string n2, .string d2, .string n3, .string d3] = v5 at *
  refine wpAnyH_ready (rs := [3]) (by kernel_rfl) (by simp) ?_
  refine AllReadyH.cons rfl (fun K hK => ?_) AllReadyH.nil
  rw [if_pos (by rfl)]
  refine wp_store_mid _ _ _ rfl (W.heap.size + 1 + 1 + 1) 0 [.int .i64 k0, .int .i64 k1, .int .i64 k2, .int .i64 k3].toArray rfl rfl (row_there (cs := #[.int .i64 0, .int .i64 0, .int .i64 0, .int .i64 0]) rb rfl) info_errs (by simp [Value.oneCell']) ?_
  refine hK _ _ ⟨(setCells_other _ _ _ _ _ (by omega)).trans hH.1, (setCells_other _ _ _ _ _ (by omega)).trans hH.2⟩ (fun _ => ?_)
  clear hK
  have qb := setCells_whole (cs := #[.int .i64 0, .int .i64 0, .int .i64 0, .int .i64 0]) [.int .i64 k0, .int .i64 k1, .int .i64 k2, .int .i64 k3] rfl rb
  have qa := (setCells_other (W.heap.size + 1 + 1 + 1) [.int .i64 k0, .int .i64 k1, .int .i64 k2, .int .i64 k3] _ 0 (W.heap.size + 1 + 1) (by omega)).trans ra
  have HV := Lib.hid (below_setCells (W.heap.size + 1 + 1 + 1) (by omega) [.int .i64 k0, .int .i64 k1, .int .i64 k2, .int .i64 k3] _ 0 HV.out)
  generalize v5.setCells (W.heap.size + 1 + 1 + 1) 0 [.int .i64 k0, .int .i64 k1, .int .i64 k2, .int .i64 k3] = v6 at *
  refine wpAnyH_done (by kernel_rfl) ?_ _
  go_wp2_with fail
  refine bodyPost_ret (results_four rfl _ _ (W.heap.size + 1 + 1) (W.heap.size + 1 + 1 + 1) _ _ rfl rfl rfl rfl qa qb) rfl ?_
  exact ⟨rfl, HV.out⟩
end Go.Proofs.YtelckldddflmmaaGreatDoor
/- RatLongP: Texts of digits, as the reference's Long makes them. Nothing of the program. -/
namespace Putlog

def Digs (s : ByteArray) : Prop := ∀ c ∈ s.data.toList, IsDig c
theorem digs_nil : Digs ⟨#[]⟩ := fun c h => by cases h
theorem digs_app {s : ByteArray} {b : UInt8} (h : Digs s) (hb : IsDig b) : Digs (s ++ ⟨#[b]⟩) := fun c hc => by
  rw [ByteArray.data_append, Array.toList_append, List.mem_append] at hc
  rcases hc with hc | hc
  · exact h c hc
  · simp at hc; rw [hc]; exact hb
theorem size_app (s : ByteArray) (b : UInt8) : (s ++ ⟨#[b]⟩).size = s.size + 1 := by
  rw [ByteArray.size_append]; rfl
theorem digs_cut {s : ByteArray} (h : Digs s) : Digs (s.extract 1 s.size) := fun c hc => h c (by
  rw [ByteArray.data_extract, Array.toList_extract] at hc
  exact List.mem_of_mem_drop (List.mem_of_mem_take hc))
theorem size_cut (s : ByteArray) : (s.extract 1 s.size).size = s.size - 1 := by
  rw [ByteArray.size_extract]; omega
theorem digs_int {s : ByteArray} (h : Digs s) (h0 : 0 < s.size) (h1 : s.size = 1 ∨ (s[0]).toNat ≠ 48) (hl : s.size ≤ 100) : ∃ N : Nat, s = intB N ∧ N < 10 ^ 100 := by
  obtain ⟨a⟩ := s
  obtain ⟨l⟩ := a
  have e : l.length = (⟨⟨l⟩⟩ : ByteArray).size := rfl
  have hd : ∀ c ∈ l, IsDig c := h
  have ok : OkT l := by
    refine ⟨hd, fun k => by subst k; exact absurd h0 (by decide), ?_⟩
    cases l with
    | nil => exact absurd h0 (by decide)
    | cons c r =>
      by_cases hc : c = 48
      · subst hc
        rcases h1 with h1 | h1
        · left
          have : r.length = 0 := by simp at e; omega
          rw [List.length_eq_zero_iff.1 this]
        · exact absurd rfl h1
      · right; simp [hc]
  refine ⟨natV l, ?_, ?_⟩
  · unfold intB intT
    rw [if_neg (by omega), Int.natAbs_natCast, okT_natV ok]
  · have := (natT_len (natV l) 100 (by decide)).1 (by rw [okT_natV ok]; omega)
    exact this
theorem long_sz {a : Int} {N : Nat} (ha : a.natAbs < 10 ^ 100) (hN : N < 10 ^ 100) (h0 : 0 < N) : makeQ (some a) (some (N : Int)) = some (Rat.divInt a N) ∧ Sz 100 100 (Rat.divInt a N) := by
  refine ⟨makeQ_ok (by omega), Nat.lt_of_le_of_lt (red_num (by omega)) ha, Nat.lt_of_le_of_lt (red_den (by omega)) ?_⟩
  rw [Int.natAbs_natCast]; exact hN
theorem neg_text {N : Nat} (h : 0 < N) : (⟨#[45]⟩ : ByteArray) ++ intB N = intB (-(N : Int)) := by
  unfold intB intT
  rw [if_neg (by omega), if_pos (by omega), Int.natAbs_neg]
  apply ByteArray.ext
  rw [ByteArray.data_append]
  simp
end Putlog
/- IntTen: Plain mathematics of layer 3: sums, differences, products, quotients and roots digit by digit, as one learns them. Nothing of the program. -/
namespace Putlog

theorem getD_far {l : List Nat} {k : Nat} (h : l.length ≤ k) : l.getD k 0 = 0 := by
  simp [List.getD_eq_getElem?_getD, List.getElem?_eq_none h]
theorem dig_getD {B : Nat} (hB : 0 < B) {l : List Nat} (h : DigB B l) (k : Nat) : l.getD k 0 < B := by
  rcases Nat.lt_or_ge k l.length with hk | hk
  · rw [List.getD_eq_getElem?_getD, List.getElem?_eq_getElem hk, Option.getD_some]; exact h _ (List.getElem_mem _)
  · rw [getD_far hk]; exact hB
theorem ten_take (l : List Nat) (k : Nat) : leV 10 (l.take (k + 1)) = leV 10 (l.take k) + 10 ^ k * l.getD k 0 := by
  rcases Nat.lt_or_ge k l.length with hk | hk
  · have h8 : l.take (k + 1) = l.take k ++ [l.getD k 0] := by rw [List.take_succ_eq_append_getElem hk]; simp [List.getD_eq_getElem?_getD, hk]
    have h9 : (l.take k).length = k := by simp; omega
    rw [h8, leV_snoc, h9]
  · rw [getD_far hk, List.take_of_length_le (by omega), List.take_of_length_le (by omega)]; simp
theorem ten_drop {l : List Nat} {k : Nat} (hk : k < l.length) : leV 10 (l.drop k) = l.getD k 0 + 10 * leV 10 (l.drop (k + 1)) := by
  rw [List.drop_eq_getElem_cons hk, leV]; simp [List.getD_eq_getElem?_getD, hk]
theorem ten_part (l : List Nat) (k : Nat) : leV 10 (l.take k) ≤ leV 10 l := by
  have h := leV_append 10 (l.take k) (l.drop k)
  rw [List.take_append_drop] at h; omega
theorem ten_top {l : List Nat} (hn : Norm l) {k : Nat} (hk : k < l.length) : 10 ^ k ≤ leV 10 l := by
  rcases norm_cases l with rfl | ⟨r, x, rfl⟩
  · simp at hk
  · have h1 := norm_ge (B := 10) (by decide) hn
    have h2 : 10 ^ k ≤ 10 ^ r.length := Nat.pow_le_pow_right (by decide) (by simp at hk; omega)
    omega
theorem ten_set : ∀ (l : List Nat) (i v : Nat), i < l.length → leV 10 (l.set i v) + 10 ^ i * l.getD i 0 = leV 10 l + 10 ^ i * v
  | [], _, _, h => by simp at h
  | x :: l, 0, v, _ => by simp [leV]; omega
  | x :: l, i + 1, v, h => by
    have := ten_set l i v (by simpa using h)
    simp only [List.set_cons_succ, leV, List.getD_cons_succ, Nat.pow_succ]
    rw [Nat.mul_comm (10 ^ i) 10, Nat.mul_assoc, Nat.mul_assoc]; omega
theorem ten_digset {B : Nat} {l : List Nat} (h : DigB B l) (i : Nat) {v : Nat} (hv : v < B) : DigB B (l.set i v) := fun y hy => by
  rcases List.mem_or_eq_of_mem_set hy with hy | hy
  · exact h y hy
  · subst hy; exact hv
theorem setN_get (l : List Nat) (i j v : Nat) (hi : i < l.length) : (l.set i v).getD j 0 = if j = i then v else l.getD j 0 := by
  simp only [List.getD_eq_getElem?_getD, List.getElem?_set]
  by_cases h : i = j
  · subst h; simp [hi]
  · rw [if_neg h, if_neg (fun e => h e.symm)]
theorem digs_of {l : List Nat} {n : Nat} (hd : DigB 10 l) (hn : Norm l) (hv : leV 10 l = n) : l = digsL 10 n := by
  rw [← hv, digsL_leV (by decide) hd hn]
theorem digs_trim {l : List Nat} {n : Nat} (hd : DigB 10 l) (hv : leV 10 l = n) : trimL l = digsL 10 n :=
  digs_of (trimL_dig hd) (trimL_norm l) (by rw [trimL_val]; exact hv)
theorem norm_of_ge {l : List Nat} (hd : DigB 10 l) (h : l = [] ∨ 10 ^ (l.length - 1) ≤ leV 10 l) : Norm l := by
  rcases norm_cases l with rfl | ⟨r, x, rfl⟩
  · exact Norm.nil
  · rcases h with h | h
    · simp at h
    · refine Norm.snoc fun hx => ?_
      subst hx
      rw [leV_snoc] at h
      have := leV_lt hd.left
      simp at h; omega

/-- A sum under way: k digits, and a carry. -/
def PlusT (A B : List Nat) (k : Nat) (out : List Nat) (c : Nat) : Prop :=
  out.length = k ∧ DigB 10 out ∧ leV 10 out + 10 ^ k * c = leV 10 (A.take k) + leV 10 (B.take k) ∧ c ≤ 1 ∧ (k = 0 ∨ 10 ^ (k - 1) ≤ leV 10 A + leV 10 B) ∧ (k ≤ A.length + B.length ∨ (k = A.length + B.length + 1 ∧ c = 0))
theorem PlusT.start (A B : List Nat) : PlusT A B 0 [] 0 := ⟨rfl, DigB.nil _, by simp [leV], by omega, .inl rfl, .inl (by omega)⟩
theorem PlusT.step {A B : List Nat} {k : Nat} {out : List Nat} {c : Nat} (h : PlusT A B k out c) (hA : DigB 10 A) (hB : DigB 10 B) (nA : Norm A) (nB : Norm B) (hgo : k < A.length ∨ k < B.length ∨ 0 < c) :
    PlusT A B (k + 1) (out ++ [(c + A.getD k 0 + B.getD k 0) % 10]) ((c + A.getD k 0 + B.getD k 0) / 10) := by
  obtain ⟨h1, h2, h3, h4, h5, h6⟩ := h
  have ha := dig_getD (by decide) hA k
  have hb := dig_getD (by decide) hB k
  refine ⟨by simp [h1], h2.append (DigB.cons (Nat.mod_lt _ (by decide)) (DigB.nil _)), ?_, by omega, .inr ?_, ?_⟩
  · rw [leV_snoc, h1, ten_take, ten_take, Nat.pow_succ, Nat.mul_assoc]
    have h7 := Nat.mod_add_div (c + A.getD k 0 + B.getD k 0) 10
    have h8 : 10 ^ k * ((c + A.getD k 0 + B.getD k 0) % 10) + 10 ^ k * (10 * ((c + A.getD k 0 + B.getD k 0) / 10)) = 10 ^ k * c + 10 ^ k * A.getD k 0 + 10 ^ k * B.getD k 0 := by
      rw [← Nat.mul_add, h7, Nat.mul_add, Nat.mul_add]
    omega
  · rw [Nat.add_sub_cancel]
    rcases hgo with hgo | hgo | hgo
    · have := ten_top nA hgo; omega
    · have := ten_top nB hgo; omega
    · have h7 := ten_part A k
      have h8 := ten_part B k
      have h9 : 10 ^ k * 1 ≤ 10 ^ k * c := Nat.mul_le_mul_left _ hgo
      omega
  · rcases h6 with h6 | ⟨h6, h7⟩
    · rcases Nat.lt_or_ge k (A.length + B.length) with h8 | h8
      · exact .inl (by omega)
      · have e1 := getD_far (l := A) (k := k) (by omega)
        have e2 := getD_far (l := B) (k := k) (by omega)
        refine .inr ⟨by omega, by rw [e1, e2]; omega⟩
    · omega
theorem PlusT.done {A B : List Nat} {k : Nat} {out : List Nat} (h : PlusT A B k out 0) (hA : A.length ≤ k) (hB : B.length ≤ k) : out = digsL 10 (leV 10 A + leV 10 B) := by
  obtain ⟨h1, h2, h3, _, h5, _⟩ := h
  rw [List.take_of_length_le hA, List.take_of_length_le hB] at h3
  refine digs_of h2 (norm_of_ge h2 ?_) (by omega)
  rcases h5 with h5 | h5
  · subst h5; exact .inl (List.length_eq_zero_iff.1 h1)
  · rw [h1]; exact .inr (by omega)
theorem PlusT.small {A B : List Nat} {k : Nat} {out : List Nat} {c : Nat} (h : PlusT A B k out c) (hgo : k < A.length ∨ k < B.length ∨ 0 < c) : k ≤ A.length + B.length := by
  obtain ⟨_, _, _, _, _, h6⟩ := h
  omega

/-- A difference under way. -/
def MinusT (A B : List Nat) (k : Nat) (out : List Nat) (c : Nat) : Prop :=
  out.length = k ∧ DigB 10 out ∧ leV 10 (A.take k) + 10 ^ k * c = leV 10 out + leV 10 (B.take k) ∧ c ≤ 1
theorem MinusT.start (A B : List Nat) : MinusT A B 0 [] 0 := ⟨rfl, DigB.nil _, by simp [leV], by omega⟩
theorem MinusT.low {A B : List Nat} {k : Nat} {out : List Nat} {c : Nat} (h : MinusT A B k out c) (hA : DigB 10 A) (hlt : A.getD k 0 < c + B.getD k 0) :
    MinusT A B (k + 1) (out ++ [A.getD k 0 + 10 - (c + B.getD k 0)]) 1 ∨ 10 ≤ B.getD k 0 := by
  rcases Nat.lt_or_ge (B.getD k 0) 10 with hb | hb
  · left
    obtain ⟨h1, h2, h3, h4⟩ := h
    have ha := dig_getD (by decide) hA k
    obtain ⟨d, hd⟩ : ∃ d, d = A.getD k 0 + 10 - (c + B.getD k 0) := ⟨_, rfl⟩
    have hd2 : d + c + B.getD k 0 = A.getD k 0 + 10 := by omega
    rw [← hd]
    refine ⟨by simp [h1], h2.append (DigB.cons (by omega) (DigB.nil _)), ?_, by omega⟩
    rw [leV_snoc, h1, ten_take, ten_take, Nat.pow_succ]
    have h8 : 10 ^ k * d + 10 ^ k * c + 10 ^ k * B.getD k 0 = 10 ^ k * A.getD k 0 + 10 ^ k * 10 := by
      rw [← Nat.mul_add, ← Nat.mul_add, ← Nat.mul_add, hd2]
    omega
  · exact .inr hb
theorem MinusT.high {A B : List Nat} {k : Nat} {out : List Nat} {c : Nat} (h : MinusT A B k out c) (hA : DigB 10 A) (hge : c + B.getD k 0 ≤ A.getD k 0) :
    MinusT A B (k + 1) (out ++ [A.getD k 0 - (c + B.getD k 0)]) 0 := by
  obtain ⟨h1, h2, h3, h4⟩ := h
  have ha := dig_getD (by decide) hA k
  obtain ⟨d, hd⟩ : ∃ d, d = A.getD k 0 - (c + B.getD k 0) := ⟨_, rfl⟩
  have hd2 : d + c + B.getD k 0 = A.getD k 0 := by omega
  rw [← hd]
  refine ⟨by simp [h1], h2.append (DigB.cons (by omega) (DigB.nil _)), ?_, by omega⟩
  rw [leV_snoc, h1, ten_take, ten_take]
  have h8 : 10 ^ k * d + 10 ^ k * c + 10 ^ k * B.getD k 0 = 10 ^ k * A.getD k 0 := by
    rw [← Nat.mul_add, ← Nat.mul_add, hd2]
  omega
theorem MinusT.done {A B : List Nat} {out : List Nat} {c : Nat} (h : MinusT A B A.length out c) (hA : DigB 10 A) (nB : Norm B) (hle : leV 10 B ≤ leV 10 A) : trimL out = digsL 10 (leV 10 A - leV 10 B) := by
  obtain ⟨h1, h2, h3, h4⟩ := h
  have hl : B.length ≤ A.length := by
    rcases Nat.lt_or_ge A.length B.length with hl | hl
    · have := leV_len_lt (by decide) hA nB hl; omega
    · exact hl
  rw [List.take_of_length_le (Nat.le_refl _), List.take_of_length_le hl] at h3
  have h5 := leV_lt h2
  rw [h1] at h5
  have hc : c = 0 := by
    rcases Nat.eq_zero_or_pos c with h6 | h6
    · exact h6
    · have h7 : 10 ^ A.length * 1 ≤ 10 ^ A.length * c := Nat.mul_le_mul_left _ h6
      omega
  subst hc
  exact digs_trim h2 (by omega)

/-- A product under way. -/
def TimesT (A B : List Nat) (i k : Nat) (C : List Nat) (c : Nat) : Prop :=
  C.length = A.length + B.length ∧ DigB 10 C ∧ leV 10 C + 10 ^ (i + k) * c = leV 10 (A.take i) * leV 10 B + 10 ^ i * A.getD i 0 * leV 10 (B.take k) ∧ c ≤ 9
theorem TimesT.start (A B : List Nat) : TimesT A B 0 0 (List.replicate (A.length + B.length) 0) 0 := by
  refine ⟨List.length_replicate, fun x hx => ?_, by simp [leV_zeros, leV], by omega⟩
  obtain ⟨_, rfl⟩ := List.mem_replicate.1 hx; decide
theorem TimesT.place {A B : List Nat} {i k : Nat} {C : List Nat} {c : Nat} (h : TimesT A B i k C c) (hA : DigB 10 A) (hB : DigB 10 B) (hi : i < A.length) (hgo : k < B.length ∨ 0 < c) : i + k < A.length + B.length := by
  rcases hgo with hgo | hgo
  · omega
  · obtain ⟨h1, h2, h3, _⟩ := h
    refine Nat.not_le.1 fun hk => ?_
    have e1 : 10 ^ (i + k) * 1 ≤ 10 ^ (i + k) * c := Nat.mul_le_mul_left _ hgo
    have e2 : 10 ^ (A.length + B.length) ≤ 10 ^ (i + k) := Nat.pow_le_pow_right (by decide) hk
    have e3 := ten_part B k
    have e4 := leV_lt hB
    have e5 : leV 10 (A.take (i + 1)) < 10 ^ A.length := Nat.lt_of_le_of_lt (ten_part A _) (leV_lt hA)
    rw [ten_take] at e5
    have e6 : 10 ^ i * A.getD i 0 * leV 10 (B.take k) ≤ 10 ^ i * A.getD i 0 * leV 10 B := Nat.mul_le_mul_left _ e3
    have e7 : (leV 10 (A.take i) + 10 ^ i * A.getD i 0) * leV 10 B < 10 ^ A.length * 10 ^ B.length := Nat.mul_lt_mul_of_lt_of_le e5 (Nat.le_of_lt e4) (Nat.pow_pos (by decide))
    rw [Nat.add_mul, ← Nat.pow_add] at e7
    omega
theorem TimesT.step {A B : List Nat} {i k : Nat} {C : List Nat} {c : Nat} (h : TimesT A B i k C c) (hA : DigB 10 A) (hB : DigB 10 B) (hi : i + k < A.length + B.length) :
    TimesT A B i (k + 1) (C.set (i + k) ((C.getD (i + k) 0 + c + A.getD i 0 * B.getD k 0) % 10)) ((C.getD (i + k) 0 + c + A.getD i 0 * B.getD k 0) / 10) := by
  obtain ⟨h1, h2, h3, h4⟩ := h
  have hs := ten_set C (i + k) ((C.getD (i + k) 0 + c + A.getD i 0 * B.getD k 0) % 10) (by omega)
  have hc := dig_getD (by decide) h2 (i + k)
  have ha := dig_getD (by decide) hA i
  have hb := dig_getD (by decide) hB k
  have hm : A.getD i 0 * B.getD k 0 ≤ 9 * 9 := Nat.mul_le_mul (by omega) (by omega)
  refine ⟨by rw [List.length_set]; exact h1, ten_digset h2 _ (Nat.mod_lt _ (by decide)), ?_, by omega⟩
  rw [ten_take, Nat.mul_add]
  have e1 : 10 ^ i * A.getD i 0 * (10 ^ k * B.getD k 0) = 10 ^ (i + k) * (A.getD i 0 * B.getD k 0) := by
    rw [Nat.pow_add]; simp only [Nat.mul_assoc, Nat.mul_left_comm]
  have e2 : 10 ^ (i + (k + 1)) = 10 ^ (i + k) * 10 := by rw [← Nat.add_assoc, Nat.pow_succ]
  rw [e1, e2, Nat.mul_assoc]
  generalize A.getD i 0 * B.getD k 0 = p at *
  generalize C.getD (i + k) 0 = x at *
  have e3 := Nat.mod_add_div (x + c + p) 10
  have e4 : 10 ^ (i + k) * ((x + c + p) % 10) + 10 ^ (i + k) * (10 * ((x + c + p) / 10)) = 10 ^ (i + k) * x + 10 ^ (i + k) * c + 10 ^ (i + k) * p := by
    rw [← Nat.mul_add, e3, Nat.mul_add, Nat.mul_add]
  omega
theorem TimesT.next {A B : List Nat} {i k : Nat} {C : List Nat} (h : TimesT A B i k C 0) (hk : B.length ≤ k) : TimesT A B (i + 1) 0 C 0 := by
  obtain ⟨h1, h2, h3, h4⟩ := h
  refine ⟨h1, h2, ?_, h4⟩
  rw [List.take_of_length_le hk] at h3
  rw [ten_take, Nat.add_mul]
  simp only [List.take_zero, leV, Nat.mul_zero, Nat.add_zero] at h3 ⊢
  omega
theorem TimesT.done {A B : List Nat} {i : Nat} {C : List Nat} (h : TimesT A B i 0 C 0) (hi : A.length ≤ i) : trimL C = digsL 10 (leV 10 A * leV 10 B) := by
  obtain ⟨h1, h2, h3, _⟩ := h
  rw [List.take_of_length_le hi] at h3
  simp only [List.take_zero, leV, Nat.mul_zero, Nat.add_zero] at h3
  exact digs_trim h2 h3

/-- A quotient under way: the digits from i up are found. -/
def DivT (A : List Nat) (y i : Nat) (Q : List Nat) (R : Nat) : Prop :=
  Q.length = A.length ∧ DigB 10 Q ∧ (∀ j, j < i → Q.getD j 0 = 0) ∧ leV 10 (A.drop i) * 10 ^ i = leV 10 Q * y + 10 ^ i * R ∧ R < y
theorem DivT.start (A : List Nat) {y : Nat} (hy : 0 < y) : DivT A y A.length (List.replicate A.length 0) 0 := by
  refine ⟨List.length_replicate, fun x hx => ?_, fun j hj => by simp [List.getD_eq_getElem?_getD, hj], by simp [leV_zeros, leV], hy⟩
  obtain ⟨_, rfl⟩ := List.mem_replicate.1 hx; decide
/-- One digit under way. -/
def DivI (A : List Nat) (y i : Nat) (Q : List Nat) (R : Nat) : Prop :=
  Q.length = A.length ∧ DigB 10 Q ∧ (∀ j, j < i → Q.getD j 0 = 0) ∧ leV 10 (A.drop i) * 10 ^ i = leV 10 Q * y + 10 ^ i * R ∧ Q.getD i 0 * y + R < 10 * y
theorem DivT.open {A : List Nat} {y i : Nat} {Q : List Nat} {R : Nat} (h : DivT A y (i + 1) Q R) (hA : DigB 10 A) (hi : i < A.length) : DivI A y i Q (A.getD i 0 + 10 * R) := by
  obtain ⟨h1, h2, h3, h4, h5⟩ := h
  refine ⟨h1, h2, fun j hj => h3 j (by omega), ?_, ?_⟩
  · rw [ten_drop hi, Nat.add_mul]
    rw [Nat.pow_succ] at h4
    have e1 : leV 10 (A.drop (i + 1)) * (10 ^ i * 10) = 10 * leV 10 (A.drop (i + 1)) * 10 ^ i := by rw [← Nat.mul_assoc, Nat.mul_comm _ 10, Nat.mul_assoc]
    have e2 : 10 ^ i * 10 * R = 10 ^ i * (10 * R) := Nat.mul_assoc _ _ _
    rw [Nat.mul_add, Nat.mul_comm (A.getD i 0) (10 ^ i)]
    omega
  · rw [h3 i (by omega)]
    have := dig_getD (by decide) hA i
    omega
theorem DivI.digit {A : List Nat} {y i : Nat} {Q : List Nat} {R : Nat} (h : DivI A y i Q R) (hR : y ≤ R) : Q.getD i 0 < 9 := by
  obtain ⟨_, _, _, _, h5⟩ := h
  refine Nat.not_le.1 fun hk => ?_
  have : 9 * y ≤ Q.getD i 0 * y := Nat.mul_le_mul_right _ hk
  omega
theorem DivI.step {A : List Nat} {y i : Nat} {Q : List Nat} {R : Nat} (h : DivI A y i Q R) (hi : i < A.length) (hR : y ≤ R) : DivI A y i (Q.set i (Q.getD i 0 + 1)) (R - y) := by
  have h9 := h.digit hR
  obtain ⟨h1, h2, h3, h4, h5⟩ := h
  have hs := ten_set Q i (Q.getD i 0 + 1) (by omega)
  refine ⟨by rw [List.length_set]; exact h1, ten_digset h2 _ (by omega), fun j hj => ?_, ?_, ?_⟩
  · rw [setN_get Q i j _ (by omega), if_neg (by omega)]; exact h3 j hj
  · have e1 : leV 10 (Q.set i (Q.getD i 0 + 1)) = leV 10 Q + 10 ^ i := by rw [Nat.mul_add, Nat.mul_one] at hs; omega
    rw [e1, Nat.add_mul, h4]
    have e2 : 10 ^ i * R = 10 ^ i * y + 10 ^ i * (R - y) := by rw [← Nat.mul_add]; congr 1; omega
    omega
  · rw [setN_get Q i i _ (by omega), if_pos rfl, Nat.add_mul, Nat.one_mul]; omega
theorem DivI.close {A : List Nat} {y i : Nat} {Q : List Nat} {R : Nat} (h : DivI A y i Q R) (hR : R < y) : DivT A y i Q R := by
  obtain ⟨h1, h2, h3, h4, _⟩ := h
  exact ⟨h1, h2, h3, h4, hR⟩
theorem DivT.done {A : List Nat} {y : Nat} {Q : List Nat} {R : Nat} (h : DivT A y 0 Q R) : trimL Q = digsL 10 (leV 10 A / y) ∧ R = leV 10 A % y := by
  obtain ⟨h1, h2, _, h4, h5⟩ := h
  simp only [List.drop_zero, Nat.pow_zero, Nat.mul_one, Nat.one_mul] at h4
  have e1 : leV 10 A / y = leV 10 Q := by
    rw [h4, Nat.mul_comm, Nat.mul_add_div (by omega), Nat.div_eq_of_lt h5]; omega
  have e2 : leV 10 A % y = R := by rw [h4, Nat.mul_comm, Nat.mul_add_mod, Nat.mod_eq_of_lt h5]
  exact ⟨by rw [e1]; exact digs_trim h2 rfl, e2.symm⟩

/-- A root under way: the digits from i up are found. -/
def RootT (n h i : Nat) (O : List Nat) : Prop :=
  O.length = h ∧ DigB 10 O ∧ (∀ j, j < i → O.getD j 0 = 0) ∧ leV 10 O * leV 10 O ≤ n ∧ n < (leV 10 O + 10 ^ i) * (leV 10 O + 10 ^ i)
theorem RootT.start {n L : Nat} (hn : n < 10 ^ L) {h : Nat} (hh : L ≤ 2 * h) : RootT n h h (List.replicate h 0) := by
  refine ⟨List.length_replicate, fun x hx => ?_, fun j hj => by simp [List.getD_eq_getElem?_getD, hj], by rw [leV_zeros]; omega, ?_⟩
  · obtain ⟨_, rfl⟩ := List.mem_replicate.1 hx; decide
  · rw [leV_zeros, Nat.zero_add, ← Nat.pow_add]
    have : 10 ^ L ≤ 10 ^ (h + h) := Nat.pow_le_pow_right (by decide) (by omega)
    omega
/-- One digit under way: d is tried. -/
def RootI (n h i : Nat) (d : Nat) (O : List Nat) : Prop :=
  O.length = h ∧ DigB 10 O ∧ (∀ j, j < i → O.getD j 0 = 0) ∧ O.getD i 0 = d ∧ 10 ^ i * d ≤ leV 10 O ∧ (leV 10 O - 10 ^ i * d) * (leV 10 O - 10 ^ i * d) ≤ n ∧ n < (leV 10 O + 10 ^ i) * (leV 10 O + 10 ^ i)
theorem RootT.open {n h i : Nat} {O : List Nat} (H : RootT n h (i + 1) O) (hi : i < h) : RootI n h i 9 (O.set i 9) := by
  obtain ⟨h1, h2, h3, h4, h5⟩ := H
  have hs := ten_set O i 9 (by omega)
  rw [h3 i (by omega), Nat.mul_zero, Nat.add_zero] at hs
  refine ⟨by rw [List.length_set]; exact h1, ten_digset h2 _ (by decide), fun j hj => ?_, ?_, by omega, ?_, ?_⟩
  · rw [setN_get O i j _ (by omega), if_neg (by omega)]; exact h3 j (by omega)
  · rw [setN_get O i i _ (by omega), if_pos rfl]
  · rw [hs, Nat.add_sub_cancel]; exact h4
  · rw [hs]
    have : leV 10 O + 10 ^ i * 9 + 10 ^ i = leV 10 O + 10 ^ (i + 1) := by rw [Nat.pow_succ]; omega
    rw [this]; exact h5
theorem RootI.step {n h i d : Nat} {O : List Nat} (H : RootI n h i d O) (hi : i < h) (hd : 0 < d) (hgt : n < leV 10 O * leV 10 O) : RootI n h i (d - 1) (O.set i (d - 1)) := by
  obtain ⟨h1, h2, h3, h4, h5, h6, h7⟩ := H
  have hs := ten_set O i (d - 1) (by omega)
  rw [h4] at hs
  have hd9 := dig_getD (by decide) h2 i
  obtain ⟨e, rfl⟩ : ∃ e, d = e + 1 := ⟨d - 1, by omega⟩
  rw [Nat.add_sub_cancel] at hs ⊢
  have e1 : 10 ^ i * (e + 1) = 10 ^ i * e + 10 ^ i := by rw [Nat.mul_add, Nat.mul_one]
  rw [e1] at hs h5 h6
  refine ⟨by rw [List.length_set]; exact h1, ten_digset h2 _ (by omega), fun j hj => ?_, ?_, by omega, ?_, ?_⟩
  · rw [setN_get O i j _ (by omega), if_neg (by omega)]; exact h3 j (by omega)
  · rw [setN_get O i i _ (by omega), if_pos rfl]
  · have : leV 10 (O.set i e) - 10 ^ i * e = leV 10 O - (10 ^ i * e + 10 ^ i) := by omega
    rw [this]; exact h6
  · have : leV 10 (O.set i e) + 10 ^ i = leV 10 O := by omega
    rw [this]; exact hgt
theorem RootI.close {n h i d : Nat} {O : List Nat} (H : RootI n h i d O) (hle : d = 0 ∨ leV 10 O * leV 10 O ≤ n) : RootT n h i O := by
  obtain ⟨h1, h2, h3, h4, h5, h6, h7⟩ := H
  refine ⟨h1, h2, h3, ?_, h7⟩
  rcases hle with rfl | hle
  · simpa using h6
  · exact hle
theorem RootT.done {n h : Nat} {O : List Nat} (H : RootT n h 0 O) : trimL O = digsL 10 (sqrtN n) := by
  obtain ⟨_, h2, _, h4, h5⟩ := H
  exact digs_trim h2 (sqrtN_unique h4 h5)
end Putlog
/- IntRefKit: What the contracts of the reference share; its order of two lists of digits. -/
namespace Go.Proofs.YtelckldddflmmaaGreatDoor
open Go.RowKit Putlog

theorem nums_form {w : World} {v : Value} {l : List Nat} (h : NumsAt w v l) : ∃ a c, v = .slice a l.length c ∧ NumsAt w (.slice a l.length c) l := by
  obtain ⟨a, c, e, r⟩ := h
  exact ⟨a, c, e, a, c, rfl, r⟩
set_option maxRecDepth 100000 in
set_option maxHeartbeats 2000000 in
theorem rtrim_at (l : List Nat) (hl : l.length ≤ 100000) (a : Option Addr) (c : Nat) (w : World) (hv : NumsAt w (.slice a l.length c) l) :
    Calls Tryz.prog 95 #[.slice a l.length c] w fun e w' => e = .returned (.slice a (trimL l).length c) ∧ w = w' := by
  obtain ⟨hc1, hc2, hc3⟩ := hv.addr
  have HA := Lib.hid hc3
  clear hv hc3
  go_enter Tryz.func95, Tryz.ntmps95
  go_wp2_with fail
  go_loop [0] (fun v => ∃ k : Nat, k ≤ l.length ∧ v = .slice a k c ∧ trimL (l.take k) = trimL l) (fun v => slen v)
  case atStart => exact ⟨l.length, Nat.le_refl _, rfl, by rw [List.take_length]⟩
  case round =>
    obtain ⟨k, hk, rfl, ht⟩ := hrel
    rcases Nat.eq_zero_or_pos k with rfl | h0
    · have HT : Hid (trimL l = []) := by show trimL l = []; rw [← ht]; rfl
      clear ht
      go_wp2_with fail
      go_ret
      rw [HT.out]
      exact ⟨rfl, rfl⟩
    · obtain ⟨q, rfl⟩ : ∃ q, k = q + 1 := ⟨k - 1, by omega⟩
      obtain ⟨g, rfl, hcell⟩ := HA.out (by omega)
      have hc := hcell q (by omega)
      obtain ⟨hs1, hs2⟩ := trim_step (l := l) (k := q) (by omega)
      have hqc : (q : Int) + 1 ≤ c := by omega
      have hqb : (q : Int) ≤ 100000 := by omega
      by_cases hx : l.getD q 0 = 0
      · have HN : Hid (trimL (l.take q) = trimL l) := by show _ = _; rw [← hs1 hx]; exact ht
        rw [hx] at hc
        clear ht hs1 hs2 hx hcell
        go_wp2_with fail
        go_round
        case rel => exact ⟨q, by omega, rfl, HN.out⟩
        case measure => simp [slen]
      · have HT : Hid (trimL l = l.take (q + 1)) := by show _ = _; rw [← ht]; exact hs2 hx
        have hxb : ((l.getD q 0 : Nat) : Int) ≠ 0 := by omega
        have hxe : (((l.getD q 0 : Nat) : Int) == 0) = false := by simpa using hxb
        generalize l.getD q 0 = x at *
        clear ht hs1 hs2 hcell
        go_wp2_with fail
        go_ret
        have hkl : (trimL l).length = q + 1 := by rw [HT.out]; simp; omega
        rw [hkl]
        exact ⟨rfl, rfl⟩

theorem trim_nums {w : World} {a : Option Addr} {l : List Nat} {c : Nat} (h : NumsAt w (.slice a l.length c) l) : NumsAt w (.slice a (trimL l).length c) (trimL l) := by
  have h1 := NumsAt.take h (trimL_le l)
  rw [← trimL_take l] at h1
  exact h1
/-- A list of numbers in a block that is not one of the first. -/
def NumsNew (w : World) (base : Nat) (v : Value) (l : List Nat) : Prop := NumsAt w v l ∧ ∀ ad n c, v = .slice (some ad) n c → base ≤ ad.block
theorem NumsNew.set {w : World} {base b i : Nat} {v x : Value} {l : List Nat} (h : NumsNew w base v l) (hb : b < base) : NumsAt (w.setCell ⟨b, i, none⟩ x) v l := by
  obtain ⟨⟨a, c, rfl, h2, h3, h4⟩, h5⟩ := h
  refine ⟨a, c, rfl, h2, h3, ?_⟩
  rcases h4 with h4 | ⟨g, rfl, h6⟩
  · exact .inl h4
  · have hg := h5 _ _ _ rfl
    refine .inr ⟨g, rfl, fun j hj => ?_⟩
    rw [World.cell?_setCell_other _ _ _ _ (fun h => by have := congrArg Addr.block h; simp at this hg; omega)]
    exact h6 j hj
theorem new_trim {w : World} {base : Nat} {v : Value} {l : List Nat} (h : w.ownsRow base 3 1 v l.length (i64l l)) : ∃ a c, v = .slice a l.length c ∧ NumsAt w (.slice a l.length c) l ∧ NumsNew w base (.slice a (trimL l).length c) (trimL l) := by
  have h1 := NumsAt.of_owns h
  obtain ⟨a, c, rfl, _, _, h4, _⟩ := ownsRow_form h
  refine ⟨a, c, rfl, h1, trim_nums h1, fun ad n c' e => ?_⟩
  cases e
  rcases h4 with ⟨h4, _⟩ | ⟨g, h5, h6⟩
  · cases h4
  · cases h6; exact h5
theorem ten_next {l : List Nat} {k : Nat} (h : k < l.length) : l.drop k = l.getD k 0 :: l.drop (k + 1) := by
  rw [List.drop_eq_getElem_cons h]; simp [List.getD_eq_getElem?_getD, h]
theorem ten_cmp {A B : List Nat} {q : Nat} (hA : DigB 10 A) (hB : DigB 10 B) (hl : A.length = B.length) (hq : q < A.length) (hd : A.drop (q + 1) = B.drop (q + 1)) (hne : A.getD q 0 ≠ B.getD q 0) : cmpI (leV 10 A : Nat) (leV 10 B : Nat) = if A.getD q 0 < B.getD q 0 then -1 else 1 := by
  have eA : A = A.take q ++ A.getD q 0 :: A.drop (q + 1) := by rw [← ten_next hq, List.take_append_drop]
  have eB : B = B.take q ++ B.getD q 0 :: A.drop (q + 1) := by rw [hd, ← ten_next (by omega), List.take_append_drop]
  have hAt : DigB 10 (A.take q) := fun x hx => hA x (List.mem_of_mem_take hx)
  have hBt : DigB 10 (B.take q) := fun x hx => hB x (List.mem_of_mem_take hx)
  have hlt : (A.take q).length = (B.take q).length := by simp; omega
  rcases Nat.lt_or_gt_of_ne hne with h | h
  · have := leV_top (t := A.drop (q + 1)) hAt hlt h
    rw [← eA, ← eB] at this
    unfold cmpI
    rw [if_pos (by omega), if_pos (by omega)]
  · have := leV_top (t := A.drop (q + 1)) hBt hlt.symm h
    rw [← eA, ← eB] at this
    unfold cmpI
    rw [if_neg (by omega), if_pos (by omega), if_neg (by omega)]
theorem ten_len {A B : List Nat} (hA : DigB 10 A) (hB : DigB 10 B) (nA : Norm A) (nB : Norm B) (hl : A.length ≠ B.length) : cmpI (leV 10 A : Nat) (leV 10 B : Nat) = if A.length < B.length then -1 else 1 := by
  rcases Nat.lt_or_gt_of_ne hl with h | h
  · have := leV_len_lt (by decide) hA nB h
    unfold cmpI
    rw [if_pos (by omega), if_pos (by omega)]
  · have := leV_len_lt (by decide) hB nA h
    unfold cmpI
    rw [if_neg (by omega), if_pos (by omega), if_neg (by omega)]
set_option maxRecDepth 100000 in
set_option maxHeartbeats 4000000 in
theorem rorder_any (A B : List Nat) (hA : DigB 10 A) (hB : DigB 10 B) (nA : Norm A) (nB : Norm B) (hlA : A.length ≤ 5000) (hlB : B.length ≤ 5000) (u v : Value) (w : World) (hu : NumsAt w u A) (hv : NumsAt w v B) :
    Calls Tryz.prog 77 #[u, v] w fun e w' => e = .returned (.int .i64 (cmpI (leV 10 A : Nat) (leV 10 B : Nat))) ∧ Below w.heap.size w w' := by
  obtain ⟨a, ca, rfl, hva⟩ := nums_form hu
  obtain ⟨b, cb, rfl, hvb⟩ := nums_form hv
  obtain ⟨hra1, hra2, hva⟩ := hva.addr
  obtain ⟨hrb1, hrb2, hvb⟩ := hvb.addr
  have HDA := Lib.hid hA
  have HDB := Lib.hid hB
  have HVA := Lib.hid hva
  have HVB := Lib.hid hvb
  have hlA' : (A.length : Int) ≤ 5000 := by omega
  have hlB' : (B.length : Int) ≤ 5000 := by omega
  by_cases hl : A.length = B.length
  · obtain ⟨n, hn⟩ : ∃ n, n = A.length := ⟨_, rfl⟩
    rw [← hl] at hrb1 ⊢
    rw [← hn] at hra1 hrb1 hlA' ⊢
    have HN := Lib.hid hn
    have HL := Lib.hid hl
    clear hA hB hu hv hva hvb hra2 hrb2 hlA hlB hn hl nA nB hlB'
    have hd0 : ((n : Int) != n) = false := by simp
    go_enter Tryz.func77, Tryz.ntmps77
    go_wp2_with fail
    go_loopw [5] (fun i wr => ∃ k : Nat, k ≤ n ∧ i = .int .i64 ((k : Int) - 1) ∧ A.drop k = B.drop k ∧ Below w.heap.size w wr) (fun i _ => (1 + intOf i).toNat)
    case atStart => exact ⟨n, Nat.le_refl _, rfl, by have h1 := HN.out; have h2 := HL.out; rw [List.drop_of_length_le (by omega), List.drop_of_length_le (by omega)], Below.refl _ _⟩
    case round =>
      obtain ⟨k, hk, rfl, hd, hB⟩ := hrel
      have HD := Lib.hid hd
      have HB := Lib.hid hB
      clear hd hB
      rcases Nat.eq_zero_or_pos k with rfl | h0
      · have HE : Hid (cmpI (leV 10 A : Nat) (leV 10 B : Nat) = 0) := by
          show _ = _
          have : A = B := by have := HD.out; simpa using this
          rw [this]; unfold cmpI; simp
        go_wp2_with fail
        go_ret
        rw [HE.out]
        exact ⟨rfl, HB.out⟩
      · obtain ⟨q, rfl⟩ : ∃ q, k = q + 1 := ⟨k - 1, by omega⟩
        have hqA : q < A.length := by have := HN.out; omega
        have hqB : q < B.length := by have := HL.out; omega
        obtain ⟨ga, rfl, hca⟩ := HVA.out (by omega)
        obtain ⟨gb, rfl, hcb⟩ := HVB.out (by omega)
        have hcx := keptBelow HB.out (hca q hqA)
        have hcy := keptBelow HB.out (hcb q hqB)
        have hqe : ((q + 1 : Nat) : Int) - 1 = q := by omega
        have hqn : (q : Int) < n := by omega
        rw [hqe]
        by_cases hne : A.getD q 0 = B.getD q 0
        · have HE : Hid (A.drop q = B.drop q) := by show _ = _; rw [ten_next hqA, ten_next hqB, hne, HD.out]
          have hnb : (((A.getD q 0 : Nat) : Int) != ((B.getD q 0 : Nat) : Int)) = false := by rw [hne]; simp
          clear hca hcb hqA hqB hne
          generalize A.getD q 0 = x at *
          generalize B.getD q 0 = y at *
          go_wp2_with fail
          go_quiet (fail)
          go_wp2_with fail
          go_roundw
          case rel => exact ⟨q, by omega, by go_num, HE.out, below_drewN HB.out _⟩
          case measure => simp [intOf]; omega
        · have HE := Lib.hid (ten_cmp HDA.out HDB.out HL.out hqA HD.out hne)
          have hnb : (((A.getD q 0 : Nat) : Int) != ((B.getD q 0 : Nat) : Int)) = true := by rw [bne_iff_ne]; omega
          rcases Nat.lt_or_gt_of_ne hne with hlt | hlt
          · rw [if_pos hlt] at HE
            have hlt' : ((A.getD q 0 : Nat) : Int) < ((B.getD q 0 : Nat) : Int) := by omega
            clear hca hcb hqA hqB hne hlt
            generalize A.getD q 0 = x at *
            generalize B.getD q 0 = y at *
            go_wp2_with fail
            go_quiet (fail)
            go_wp2_with fail
            have hcx2 : (wr.drewN nq).cell? ⟨ga, q, none⟩ = some (.int .i64 (x : Nat)) := hcx
            have hcy2 : (wr.drewN nq).cell? ⟨gb, q, none⟩ = some (.int .i64 (y : Nat)) := hcy
            have HB2 : Hid (Below w.heap.size w (wr.drewN nq)) := below_drewN HB.out _
            generalize wr.drewN nq = w9 at *
            clear nq hcx hcy
            go_quiet (fail)
            go_wp2_with fail
            go_ret
            rw [HE.out]
            exact ⟨rfl, below_drewN HB2.out _⟩
          · rw [if_neg (by omega)] at HE
            have hlt' : ((B.getD q 0 : Nat) : Int) < ((A.getD q 0 : Nat) : Int) := by omega
            clear hca hcb hqA hqB hne hlt
            generalize A.getD q 0 = x at *
            generalize B.getD q 0 = y at *
            go_wp2_with fail
            go_quiet (fail)
            go_wp2_with fail
            have hcx2 : (wr.drewN nq).cell? ⟨ga, q, none⟩ = some (.int .i64 (x : Nat)) := hcx
            have hcy2 : (wr.drewN nq).cell? ⟨gb, q, none⟩ = some (.int .i64 (y : Nat)) := hcy
            have HB2 : Hid (Below w.heap.size w (wr.drewN nq)) := below_drewN HB.out _
            generalize wr.drewN nq = w9 at *
            clear nq hcx hcy
            go_quiet (fail)
            go_wp2_with fail
            go_ret
            rw [HE.out]
            exact ⟨rfl, below_drewN HB2.out _⟩
  · have HE := Lib.hid (ten_len hA hB nA nB hl)
    obtain ⟨n, hn⟩ : ∃ n, n = A.length := ⟨_, rfl⟩
    obtain ⟨m, hm⟩ : ∃ m, m = B.length := ⟨_, rfl⟩
    have hnm : ((n : Int) != m) = true := by rw [bne_iff_ne]; omega
    rw [← hn, ← hm] at HE
    rw [← hn] at hra1 hlA' hl ⊢
    rw [← hm] at hrb1 hlB' hl ⊢
    clear hA hB hu hv hva hvb hra2 hrb2 hlA hlB hn hm nA nB
    rcases Nat.lt_or_gt_of_ne hl with hlt | hlt
    · rw [if_pos hlt] at HE
      have hlt' : (n : Int) < m := by omega
      clear hl hlt
      go_enter Tryz.func77, Tryz.ntmps77
      go_wp2_with fail
      go_ret
      rw [HE.out]
      exact ⟨rfl, Below.refl _ _⟩
    · rw [if_neg (by omega)] at HE
      have hlt' : (m : Int) < n := by omega
      clear hl hlt
      go_enter Tryz.func77, Tryz.ntmps77
      go_wp2_with fail
      go_ret
      rw [HE.out]
      exact ⟨rfl, Below.refl _ _⟩
end Go.Proofs.YtelckldddflmmaaGreatDoor
/- IntRefPlus: The reference's sum, difference and product of two lists of digits. -/
namespace Go.Proofs.YtelckldddflmmaaGreatDoor
open Go.RowKit Putlog

set_option maxRecDepth 100000 in
set_option maxHeartbeats 4000000 in
theorem rplus_any (A B : List Nat) (hA : DigB 10 A) (hB : DigB 10 B) (nA : Norm A) (nB : Norm B) (hlA : A.length ≤ 5000) (hlB : B.length ≤ 5000) (u v : Value) (w : World) (hu : NumsAt w u A) (hv : NumsAt w v B) :
    Calls Tryz.prog 74 #[u, v] w fun e w' => (∃ r, e = .returned r ∧ NumsAt w' r (digsL 10 (leV 10 A + leV 10 B))) ∧ Below w.heap.size w w' := by
  obtain ⟨i0, hi0, hz0, hz1, hz2⟩ := info_parts info_int
  have HI0 := Lib.hid hi0
  have HZ0 := Lib.hid hz0
  have HZ1 := Lib.hid hz1
  have HZ2 := Lib.hid hz2
  obtain ⟨a, ca, rfl, hva⟩ := nums_form hu
  obtain ⟨b, cb, rfl, hvb⟩ := nums_form hv
  obtain ⟨hra1, _, hva⟩ := hva.addr
  obtain ⟨hrb1, _, hvb⟩ := hvb.addr
  have HDA := Lib.hid hA
  have HDB := Lib.hid hB
  have HNA := Lib.hid nA
  have HNB := Lib.hid nB
  have HVA := Lib.hid hva
  have HVB := Lib.hid hvb
  obtain ⟨n, hn⟩ : ∃ n, n = A.length := ⟨_, rfl⟩
  obtain ⟨m, hm⟩ : ∃ m, m = B.length := ⟨_, rfl⟩
  have hnb : (n : Int) ≤ 5000 := by omega
  have hmb : (m : Int) ≤ 5000 := by omega
  rw [← hn] at hra1 ⊢
  rw [← hm] at hrb1 ⊢
  have HN := Lib.hid hn
  have HM := Lib.hid hm
  clear hi0 hz0 hz1 hz2 hA hB nA nB hlA hlB hu hv hva hvb hn hm
  go_enter Tryz.func74, Tryz.ntmps74
  go_wp2_with fail
  go_loopw [5, 6, 7] (fun v c i wr => ∃ (k cc : Nat) (l : List Nat), i = .int .i64 k ∧ c = .int .i64 cc ∧ PlusT A B k l cc ∧ wr.ownsRow w.heap.size 3 1 v l.length (i64l l) ∧ Below w.heap.size w wr) (fun _ c i _ => 2 * (n + m - (intOf i).toNat) + (intOf c).toNat)
  case atStart => exact ⟨0, 0, [], rfl, rfl, PlusT.start A B, World.ownsRow_nil _ _ _ _, Below.refl _ _⟩
  case round =>
    obtain ⟨k, cc, y, rfl, rfl, hP, hown, hB⟩ := hrel
    have HP := Lib.hid hP
    have HO := Lib.hid hown
    have HB := Lib.hid hB
    have hcb : (cc : Int) ≤ 1 := by have := hP.2.2.2.1; omega
    have hlen := hP.1
    clear hP hown hB
    have HS : Hid (∀ (h : k < A.length ∨ k < B.length ∨ 0 < cc), PlusT A B (k + 1) (y ++ [(cc + A.getD k 0 + B.getD k 0) % 10]) ((cc + A.getD k 0 + B.getD k 0) / 10) ∧ k ≤ A.length + B.length) := fun h => ⟨HP.out.step HDA.out HDB.out HNA.out HNB.out h, HP.out.small h⟩
    by_cases hka : k < n
    · by_cases hkb : k < m
      · skip
        obtain ⟨hst, hsm⟩ := HS.out (.inl (by have := HN.out; omega))
        have hbig : k ≤ 10000 := by have := HN.out; have := HM.out; omega
        have hsm2 : k ≤ n + m := by have := HN.out; have := HM.out; omega
        have hkbig : (k : Int) ≤ 10000 := by omega
        obtain ⟨ga, rfl, hca⟩ := HVA.out (by have := HN.out; omega)
        have hcx := keptBelow HB.out (hca k (by have := HN.out; omega))
        have hxa := dig_getD (by decide) HDA.out k
        have hxa' : ((A.getD k 0 : Nat) : Int) ≤ 9 := by omega
        have hka' : (k : Int) < n := by omega
        obtain ⟨gb, rfl, hcb2⟩ := HVB.out (by have := HM.out; omega)
        have hcy := keptBelow HB.out (hcb2 k (by have := HM.out; omega))
        have hxb := dig_getD (by decide) HDB.out k
        have hxb' : ((B.getD k 0 : Nat) : Int) ≤ 9 := by omega
        have hkb' : (k : Int) < m := by omega
        obtain ⟨d, hd⟩ : ∃ d, d = (cc + A.getD k 0 + B.getD k 0) % 10 := ⟨_, rfl⟩
        obtain ⟨q, hq⟩ : ∃ q, q = (cc + A.getD k 0 + B.getD k 0) / 10 := ⟨_, rfl⟩
        rw [← hd, ← hq] at hst
        have hm1 : ((cc : Int) + ((A.getD k 0 : Nat) : Int) + ((B.getD k 0 : Nat) : Int)) % 10 = (d : Nat) := by omega
        have hm2 : ((cc : Int) + ((A.getD k 0 : Nat) : Int) + ((B.getD k 0 : Nat) : Int)).tmod 10 = (d : Nat) := by rw [Int.tmod_eq_emod_of_nonneg (by omega)]; exact hm1
        have hm3 : ((cc : Int) + ((A.getD k 0 : Nat) : Int) + ((B.getD k 0 : Nat) : Int)) / 10 = (q : Nat) := by omega
        have hm4 : ((cc : Int) + ((A.getD k 0 : Nat) : Int) + ((B.getD k 0 : Nat) : Int)).tdiv 10 = (q : Nat) := by rw [Int.tdiv_eq_ediv_of_nonneg (by omega)]; exact hm3
        have hd9 : (d : Int) ≤ 9 := by omega
        have hq9 : (q : Int) ≤ 1 := by have := hst.2.2.2.1; omega
        have hmes : 2 * (n + m - (k + 1)) + q < 2 * (n + m - k) + cc := by have h1 := HN.out; have h2 := HM.out; have h3 := hst.2.2.2.2.2; have h4 := hst.2.2.2.1; omega
        have HMES := Lib.hid hmes
        have HST := Lib.hid hst
        have HK : Hid (y.length ≤ 100000) := by show _ ≤ _; omega
        clear hst hd hq hsm hsm2 hlen hmes hbig hca hxa hcb2 hxb
        generalize A.getD k 0 = xa at *
        generalize B.getD k 0 = xb at *
        go_wp2_with (at_builtin; refine wpList_append_own _ rfl _ _ 40 rfl w.heap.size 3 i0 (.int .i64 0) 1 8 Tryz.underlying40 HI0.out HZ0.out HZ1.out HZ2.out rfl (by decide) u5 y.length (i64l y) (by rfl) (HO.out.alloc _) ⟨wr.heap.size, 0, none⟩ 1 1 [.int .i64 (d : Nat)] (by rfl) rfl (news_val _ _ _) (one_int _ _) (app_b1 HK.out) (app_b2 HK.out (by decide)) (app_b3 HB.out) ?_; intro v2 w9 hown9 hgrow9 _)
        have HF := Lib.hid (app_i64 (b := d) HO.out HB.out hown9 hgrow9)
        clear hown9 hgrow9
        go_wp2_with fail
        go_roundw
        case rel => exact ⟨k + 1, q, _, by go_num, by go_num, HST.out, HF.out.1, HF.out.2⟩
        case measure => have := HMES.out; simp [intOf]; omega
      · skip
        obtain ⟨hst, hsm⟩ := HS.out (.inl (by have := HN.out; omega))
        have hbig : k ≤ 10000 := by have := HN.out; have := HM.out; omega
        have hsm2 : k ≤ n + m := by have := HN.out; have := HM.out; omega
        have hkbig : (k : Int) ≤ 10000 := by omega
        obtain ⟨ga, rfl, hca⟩ := HVA.out (by have := HN.out; omega)
        have hcx := keptBelow HB.out (hca k (by have := HN.out; omega))
        have hxa := dig_getD (by decide) HDA.out k
        have hxa' : ((A.getD k 0 : Nat) : Int) ≤ 9 := by omega
        have hka' : (k : Int) < n := by omega
        rw [getD_far (l := B) (k := k) (by have := HM.out; omega)] at hst
        simp only [Nat.add_zero] at hst
        have hkb' : (m : Int) ≤ k := by omega
        obtain ⟨d, hd⟩ : ∃ d, d = (cc + A.getD k 0) % 10 := ⟨_, rfl⟩
        obtain ⟨q, hq⟩ : ∃ q, q = (cc + A.getD k 0) / 10 := ⟨_, rfl⟩
        rw [← hd, ← hq] at hst
        have hm1 : ((cc : Int) + ((A.getD k 0 : Nat) : Int)) % 10 = (d : Nat) := by omega
        have hm2 : ((cc : Int) + ((A.getD k 0 : Nat) : Int)).tmod 10 = (d : Nat) := by rw [Int.tmod_eq_emod_of_nonneg (by omega)]; exact hm1
        have hm3 : ((cc : Int) + ((A.getD k 0 : Nat) : Int)) / 10 = (q : Nat) := by omega
        have hm4 : ((cc : Int) + ((A.getD k 0 : Nat) : Int)).tdiv 10 = (q : Nat) := by rw [Int.tdiv_eq_ediv_of_nonneg (by omega)]; exact hm3
        have hd9 : (d : Int) ≤ 9 := by omega
        have hq9 : (q : Int) ≤ 1 := by have := hst.2.2.2.1; omega
        have hmes : 2 * (n + m - (k + 1)) + q < 2 * (n + m - k) + cc := by have h1 := HN.out; have h2 := HM.out; have h3 := hst.2.2.2.2.2; have h4 := hst.2.2.2.1; omega
        have HMES := Lib.hid hmes
        have HST := Lib.hid hst
        have HK : Hid (y.length ≤ 100000) := by show _ ≤ _; omega
        clear hst hd hq hsm hsm2 hlen hmes hbig hca hxa
        generalize A.getD k 0 = xa at *
        go_wp2_with (at_builtin; refine wpList_append_own _ rfl _ _ 40 rfl w.heap.size 3 i0 (.int .i64 0) 1 8 Tryz.underlying40 HI0.out HZ0.out HZ1.out HZ2.out rfl (by decide) u5 y.length (i64l y) (by rfl) (HO.out.alloc _) ⟨wr.heap.size, 0, none⟩ 1 1 [.int .i64 (d : Nat)] (by rfl) rfl (news_val _ _ _) (one_int _ _) (app_b1 HK.out) (app_b2 HK.out (by decide)) (app_b3 HB.out) ?_; intro v2 w9 hown9 hgrow9 _)
        have HF := Lib.hid (app_i64 (b := d) HO.out HB.out hown9 hgrow9)
        clear hown9 hgrow9
        go_wp2_with fail
        go_roundw
        case rel => exact ⟨k + 1, q, _, by go_num, by go_num, HST.out, HF.out.1, HF.out.2⟩
        case measure => have := HMES.out; simp [intOf]; omega
    · by_cases hkb : k < m
      · skip
        obtain ⟨hst, hsm⟩ := HS.out (.inr (.inl (by have := HM.out; omega)))
        have hbig : k ≤ 10000 := by have := HN.out; have := HM.out; omega
        have hsm2 : k ≤ n + m := by have := HN.out; have := HM.out; omega
        have hkbig : (k : Int) ≤ 10000 := by omega
        rw [getD_far (l := A) (k := k) (by have := HN.out; omega)] at hst
        simp only [Nat.add_zero] at hst
        have hka' : (n : Int) ≤ k := by omega
        obtain ⟨gb, rfl, hcb2⟩ := HVB.out (by have := HM.out; omega)
        have hcy := keptBelow HB.out (hcb2 k (by have := HM.out; omega))
        have hxb := dig_getD (by decide) HDB.out k
        have hxb' : ((B.getD k 0 : Nat) : Int) ≤ 9 := by omega
        have hkb' : (k : Int) < m := by omega
        obtain ⟨d, hd⟩ : ∃ d, d = (cc + B.getD k 0) % 10 := ⟨_, rfl⟩
        obtain ⟨q, hq⟩ : ∃ q, q = (cc + B.getD k 0) / 10 := ⟨_, rfl⟩
        rw [← hd, ← hq] at hst
        have hm1 : ((cc : Int) + ((B.getD k 0 : Nat) : Int)) % 10 = (d : Nat) := by omega
        have hm2 : ((cc : Int) + ((B.getD k 0 : Nat) : Int)).tmod 10 = (d : Nat) := by rw [Int.tmod_eq_emod_of_nonneg (by omega)]; exact hm1
        have hm3 : ((cc : Int) + ((B.getD k 0 : Nat) : Int)) / 10 = (q : Nat) := by omega
        have hm4 : ((cc : Int) + ((B.getD k 0 : Nat) : Int)).tdiv 10 = (q : Nat) := by rw [Int.tdiv_eq_ediv_of_nonneg (by omega)]; exact hm3
        have hd9 : (d : Int) ≤ 9 := by omega
        have hq9 : (q : Int) ≤ 1 := by have := hst.2.2.2.1; omega
        have hmes : 2 * (n + m - (k + 1)) + q < 2 * (n + m - k) + cc := by have h1 := HN.out; have h2 := HM.out; have h3 := hst.2.2.2.2.2; have h4 := hst.2.2.2.1; omega
        have HMES := Lib.hid hmes
        have HST := Lib.hid hst
        have HK : Hid (y.length ≤ 100000) := by show _ ≤ _; omega
        clear hst hd hq hsm hsm2 hlen hmes hbig hcb2 hxb
        generalize B.getD k 0 = xb at *
        go_wp2_with (at_builtin; refine wpList_append_own _ rfl _ _ 40 rfl w.heap.size 3 i0 (.int .i64 0) 1 8 Tryz.underlying40 HI0.out HZ0.out HZ1.out HZ2.out rfl (by decide) u5 y.length (i64l y) (by rfl) (HO.out.alloc _) ⟨wr.heap.size, 0, none⟩ 1 1 [.int .i64 (d : Nat)] (by rfl) rfl (news_val _ _ _) (one_int _ _) (app_b1 HK.out) (app_b2 HK.out (by decide)) (app_b3 HB.out) ?_; intro v2 w9 hown9 hgrow9 _)
        have HF := Lib.hid (app_i64 (b := d) HO.out HB.out hown9 hgrow9)
        clear hown9 hgrow9
        go_wp2_with fail
        go_roundw
        case rel => exact ⟨k + 1, q, _, by go_num, by go_num, HST.out, HF.out.1, HF.out.2⟩
        case measure => have := HMES.out; simp [intOf]; omega
      · by_cases hc : 0 < cc
        · skip
          have hc' : (0 : Int) < cc := by omega
          obtain ⟨hst, hsm⟩ := HS.out (.inr (.inr hc))
          have hbig : k ≤ 10000 := by have := HN.out; have := HM.out; omega
          have hsm2 : k ≤ n + m := by have := HN.out; have := HM.out; omega
          have hkbig : (k : Int) ≤ 10000 := by omega
          rw [getD_far (l := A) (k := k) (by have := HN.out; omega)] at hst
          simp only [Nat.add_zero] at hst
          have hka' : (n : Int) ≤ k := by omega
          rw [getD_far (l := B) (k := k) (by have := HM.out; omega)] at hst
          simp only [Nat.add_zero] at hst
          have hkb' : (m : Int) ≤ k := by omega
          obtain ⟨d, hd⟩ : ∃ d, d = (cc) % 10 := ⟨_, rfl⟩
          obtain ⟨q, hq⟩ : ∃ q, q = (cc) / 10 := ⟨_, rfl⟩
          rw [← hd, ← hq] at hst
          have hm1 : ((cc : Int)) % 10 = (d : Nat) := by omega
          have hm2 : ((cc : Int)).tmod 10 = (d : Nat) := by rw [Int.tmod_eq_emod_of_nonneg (by omega)]; exact hm1
          have hm3 : ((cc : Int)) / 10 = (q : Nat) := by omega
          have hm4 : ((cc : Int)).tdiv 10 = (q : Nat) := by rw [Int.tdiv_eq_ediv_of_nonneg (by omega)]; exact hm3
          have hd9 : (d : Int) ≤ 9 := by omega
          have hq9 : (q : Int) ≤ 1 := by have := hst.2.2.2.1; omega
          have hmes : 2 * (n + m - (k + 1)) + q < 2 * (n + m - k) + cc := by have h1 := HN.out; have h2 := HM.out; have h3 := hst.2.2.2.2.2; have h4 := hst.2.2.2.1; omega
          have HMES := Lib.hid hmes
          have HST := Lib.hid hst
          have HK : Hid (y.length ≤ 100000) := by show _ ≤ _; omega
          clear hst hd hq hsm hsm2 hlen hmes hbig
          go_wp2_with (at_builtin; refine wpList_append_own _ rfl _ _ 40 rfl w.heap.size 3 i0 (.int .i64 0) 1 8 Tryz.underlying40 HI0.out HZ0.out HZ1.out HZ2.out rfl (by decide) u5 y.length (i64l y) (by rfl) (HO.out.alloc _) ⟨wr.heap.size, 0, none⟩ 1 1 [.int .i64 (d : Nat)] (by rfl) rfl (news_val _ _ _) (one_int _ _) (app_b1 HK.out) (app_b2 HK.out (by decide)) (app_b3 HB.out) ?_; intro v2 w9 hown9 hgrow9 _)
          have HF := Lib.hid (app_i64 (b := d) HO.out HB.out hown9 hgrow9)
          clear hown9 hgrow9
          go_wp2_with fail
          go_roundw
          case rel => exact ⟨k + 1, q, _, by go_num, by go_num, HST.out, HF.out.1, HF.out.2⟩
          case measure => have := HMES.out; simp [intOf]; omega
        · obtain rfl : cc = 0 := by omega
          have hka' : (n : Int) ≤ k := by omega
          have hkb' : (m : Int) ≤ k := by omega
          have HE := Lib.hid (HP.out.done (by have := HN.out; omega) (by have := HM.out; omega))
          go_wp2_with fail
          go_ret
          refine ⟨⟨_, rfl, ?_⟩, HB.out⟩
          rw [← HE.out]
          exact NumsAt.of_owns HO.out

set_option maxRecDepth 100000 in
set_option maxHeartbeats 4000000 in
theorem rminus_any (A B : List Nat) (hA : DigB 10 A) (hB : DigB 10 B) (nB : Norm B) (hlA : A.length ≤ 5000) (hle : leV 10 B ≤ leV 10 A) (u v : Value) (w : World) (hu : NumsAt w u A) (hv : NumsAt w v B) :
    Calls Tryz.prog 75 #[u, v] w fun e w' => (∃ r, e = .returned r ∧ NumsNew w' w.heap.size r (digsL 10 (leV 10 A - leV 10 B))) ∧ Below w.heap.size w w' := by
  obtain ⟨i0, hi0, hz0, hz1, hz2⟩ := info_parts info_int
  have HI0 := Lib.hid hi0
  have HZ0 := Lib.hid hz0
  have HZ1 := Lib.hid hz1
  have HZ2 := Lib.hid hz2
  obtain ⟨a, ca, rfl, hva⟩ := nums_form hu
  obtain ⟨b, cb, rfl, hvb⟩ := nums_form hv
  obtain ⟨hra1, _, hva⟩ := hva.addr
  obtain ⟨hrb1, hrb2, hvb⟩ := hvb.addr
  have HDA := Lib.hid hA
  have HDB := Lib.hid hB
  have HNB := Lib.hid nB
  have HVA := Lib.hid hva
  have HVB := Lib.hid hvb
  have HLE := Lib.hid hle
  obtain ⟨n, hn⟩ : ∃ n, n = A.length := ⟨_, rfl⟩
  obtain ⟨m, hm⟩ : ∃ m, m = B.length := ⟨_, rfl⟩
  have hnb : (n : Int) ≤ 5000 := by omega
  have hmb : (m : Int) ≤ 9223372036854775807 := by omega
  rw [← hn] at hra1 ⊢
  rw [← hm] at hrb1 ⊢
  have HN := Lib.hid hn
  have HM := Lib.hid hm
  clear hi0 hz0 hz1 hz2 hA hB nB hlA hle hu hv hva hvb hn hm hrb2
  go_enter Tryz.func75, Tryz.ntmps75
  go_wp2_with fail
  go_loopw [5, 6, 7] (fun v c i wr => ∃ (k cc : Nat) (l : List Nat), k ≤ n ∧ i = .int .i64 k ∧ c = .int .i64 cc ∧ MinusT A B k l cc ∧ wr.ownsRow w.heap.size 3 1 v l.length (i64l l) ∧ Below w.heap.size w wr) (fun _ _ i _ => n - (intOf i).toNat)
  case atStart => exact ⟨0, 0, [], by omega, rfl, rfl, MinusT.start A B, World.ownsRow_nil _ _ _ _, Below.refl _ _⟩
  case round =>
    obtain ⟨k, cc, y, hk, rfl, rfl, hP, hown, hB⟩ := hrel
    have HP := Lib.hid hP
    have HO := Lib.hid hown
    have HB := Lib.hid hB
    have hcb : (cc : Int) ≤ 1 := by have := hP.2.2.2; omega
    have hlen := hP.1
    have hkbig : (k : Int) ≤ 5000 := by omega
    have HK : Hid (y.length ≤ 100000) := by show _ ≤ _; omega
    clear hP hown hB hlen
    by_cases hka : k < n
    · obtain ⟨ga, rfl, hca⟩ := HVA.out (by have := HN.out; omega)
      have hcx := keptBelow HB.out (hca k (by have := HN.out; omega))
      have hxa := dig_getD (by decide) HDA.out k
      have hxa' : ((A.getD k 0 : Nat) : Int) ≤ 9 := by omega
      have hka' : (k : Int) < n := by omega
      have hxb := dig_getD (by decide) HDB.out k
      have hxb' : ((B.getD k 0 : Nat) : Int) ≤ 9 := by omega
      clear hca hxa
      by_cases hkb : k < m
      · by_cases hlow : A.getD k 0 < cc + B.getD k 0
        · skip
          obtain ⟨gb, rfl, hcb2⟩ := HVB.out (by have := HM.out; omega)
          have hcy := keptBelow HB.out (hcb2 k (by have := HM.out; omega))
          have hkb' : (k : Int) < m := by omega
          clear hcb2
          have hst := (HP.out.low HDA.out hlow).resolve_right (by omega)
          obtain ⟨d, hd⟩ : ∃ d, d = (A.getD k 0 + 10 - (cc + B.getD k 0)) := ⟨_, rfl⟩
          rw [← hd] at hst
          have hneg : (((A.getD k 0 : Nat) : Int) - (cc : Int) - ((B.getD k 0 : Nat) : Int)) < 0 := by omega
          have hval : (((A.getD k 0 : Nat) : Int) - (cc : Int) - ((B.getD k 0 : Nat) : Int)) + 10 = (d : Nat) := by omega
          have hd9 : (d : Int) ≤ 9 := by omega
          have HST := Lib.hid hst
          clear hst hd hlow hxb
          generalize A.getD k 0 = xa at *
          generalize B.getD k 0 = xb at *
          go_wp2_with (at_builtin; refine wpList_append_own _ rfl _ _ 40 rfl w.heap.size 3 i0 (.int .i64 0) 1 8 Tryz.underlying40 HI0.out HZ0.out HZ1.out HZ2.out rfl (by decide) u5 y.length (i64l y) (by rfl) (HO.out.alloc _) ⟨wr.heap.size, 0, none⟩ 1 1 [.int .i64 (d : Nat)] (by rfl) rfl (news_val _ _ _) (one_int _ _) (app_b1 HK.out) (app_b2 HK.out (by decide)) (app_b3 HB.out) ?_; intro v2 w9 hown9 hgrow9 _)
          have HF := Lib.hid (app_i64 (b := d) HO.out HB.out hown9 hgrow9)
          clear hown9 hgrow9
          go_wp2_with fail
          go_roundw
          case rel => exact ⟨k + 1, 1, _, by omega, by go_num, by go_num, HST.out, HF.out.1, HF.out.2⟩
          case measure => simp [intOf]; omega
        · have hhigh : cc + B.getD k 0 ≤ A.getD k 0 := by omega
          clear hlow
          obtain ⟨gb, rfl, hcb2⟩ := HVB.out (by have := HM.out; omega)
          have hcy := keptBelow HB.out (hcb2 k (by have := HM.out; omega))
          have hkb' : (k : Int) < m := by omega
          clear hcb2
          have hst := HP.out.high HDA.out (by omega)
          obtain ⟨d, hd⟩ : ∃ d, d = (A.getD k 0 - (cc + B.getD k 0)) := ⟨_, rfl⟩
          rw [← hd] at hst
          have hneg : ¬ (((A.getD k 0 : Nat) : Int) - (cc : Int) - ((B.getD k 0 : Nat) : Int)) < 0 := by omega
          have hval : (((A.getD k 0 : Nat) : Int) - (cc : Int) - ((B.getD k 0 : Nat) : Int)) = (d : Nat) := by omega
          have hd9 : (d : Int) ≤ 9 := by omega
          have HST := Lib.hid hst
          clear hst hd hhigh hxb
          generalize A.getD k 0 = xa at *
          generalize B.getD k 0 = xb at *
          go_wp2_with (at_builtin; refine wpList_append_own _ rfl _ _ 40 rfl w.heap.size 3 i0 (.int .i64 0) 1 8 Tryz.underlying40 HI0.out HZ0.out HZ1.out HZ2.out rfl (by decide) u5 y.length (i64l y) (by rfl) (HO.out.alloc _) ⟨wr.heap.size, 0, none⟩ 1 1 [.int .i64 (d : Nat)] (by rfl) rfl (news_val _ _ _) (one_int _ _) (app_b1 HK.out) (app_b2 HK.out (by decide)) (app_b3 HB.out) ?_; intro v2 w9 hown9 hgrow9 _)
          have HF := Lib.hid (app_i64 (b := d) HO.out HB.out hown9 hgrow9)
          clear hown9 hgrow9
          go_wp2_with fail
          go_roundw
          case rel => exact ⟨k + 1, 0, _, by omega, by go_num, by go_num, HST.out, HF.out.1, HF.out.2⟩
          case measure => simp [intOf]; omega
      · by_cases hlow : A.getD k 0 < cc + B.getD k 0
        · skip
          have hkb' : (m : Int) ≤ k := by omega
          have hst := (HP.out.low HDA.out hlow).resolve_right (by omega)
          rw [getD_far (l := B) (k := k) (by have := HM.out; omega)] at hst
          have hz0 : B.getD k 0 = 0 := getD_far (by have := HM.out; omega)
          rw [hz0] at hlow
          obtain ⟨d, hd⟩ : ∃ d, d = (A.getD k 0 + 10 - (cc + 0)) := ⟨_, rfl⟩
          rw [← hd] at hst
          have hneg : (((A.getD k 0 : Nat) : Int) - (cc : Int)) < 0 := by omega
          have hval : (((A.getD k 0 : Nat) : Int) - (cc : Int)) + 10 = (d : Nat) := by omega
          have hd9 : (d : Int) ≤ 9 := by omega
          have HST := Lib.hid hst
          clear hst hd hlow hxb hz0 hxb'
          generalize A.getD k 0 = xa at *
          go_wp2_with (at_builtin; refine wpList_append_own _ rfl _ _ 40 rfl w.heap.size 3 i0 (.int .i64 0) 1 8 Tryz.underlying40 HI0.out HZ0.out HZ1.out HZ2.out rfl (by decide) u5 y.length (i64l y) (by rfl) (HO.out.alloc _) ⟨wr.heap.size, 0, none⟩ 1 1 [.int .i64 (d : Nat)] (by rfl) rfl (news_val _ _ _) (one_int _ _) (app_b1 HK.out) (app_b2 HK.out (by decide)) (app_b3 HB.out) ?_; intro v2 w9 hown9 hgrow9 _)
          have HF := Lib.hid (app_i64 (b := d) HO.out HB.out hown9 hgrow9)
          clear hown9 hgrow9
          go_wp2_with fail
          go_roundw
          case rel => exact ⟨k + 1, 1, _, by omega, by go_num, by go_num, HST.out, HF.out.1, HF.out.2⟩
          case measure => simp [intOf]; omega
        · have hhigh : cc + B.getD k 0 ≤ A.getD k 0 := by omega
          clear hlow
          have hkb' : (m : Int) ≤ k := by omega
          have hst := HP.out.high HDA.out (by omega)
          rw [getD_far (l := B) (k := k) (by have := HM.out; omega)] at hst
          have hz0 : B.getD k 0 = 0 := getD_far (by have := HM.out; omega)
          rw [hz0] at hhigh
          obtain ⟨d, hd⟩ : ∃ d, d = (A.getD k 0 - (cc + 0)) := ⟨_, rfl⟩
          rw [← hd] at hst
          have hneg : ¬ (((A.getD k 0 : Nat) : Int) - (cc : Int)) < 0 := by omega
          have hval : (((A.getD k 0 : Nat) : Int) - (cc : Int)) = (d : Nat) := by omega
          have hd9 : (d : Int) ≤ 9 := by omega
          have HST := Lib.hid hst
          clear hst hd hhigh hxb hz0 hxb'
          generalize A.getD k 0 = xa at *
          go_wp2_with (at_builtin; refine wpList_append_own _ rfl _ _ 40 rfl w.heap.size 3 i0 (.int .i64 0) 1 8 Tryz.underlying40 HI0.out HZ0.out HZ1.out HZ2.out rfl (by decide) u5 y.length (i64l y) (by rfl) (HO.out.alloc _) ⟨wr.heap.size, 0, none⟩ 1 1 [.int .i64 (d : Nat)] (by rfl) rfl (news_val _ _ _) (one_int _ _) (app_b1 HK.out) (app_b2 HK.out (by decide)) (app_b3 HB.out) ?_; intro v2 w9 hown9 hgrow9 _)
          have HF := Lib.hid (app_i64 (b := d) HO.out HB.out hown9 hgrow9)
          clear hown9 hgrow9
          go_wp2_with fail
          go_roundw
          case rel => exact ⟨k + 1, 0, _, by omega, by go_num, by go_num, HST.out, HF.out.1, HF.out.2⟩
          case measure => simp [intOf]; omega
    · obtain rfl : k = n := by omega
      have hP := HP.out
      rw [HN.out] at hP
      have hE := hP.done HDA.out HNB.out HLE.out
      obtain ⟨ya, yc, rfl, hnums, hnew⟩ := new_trim HO.out
      have hT := rtrim_at y HK.out ya yc wr hnums
      rw [hE] at hT hnew
      have HT := Lib.hid hT
      have HNEW := Lib.hid hnew
      clear hP hE hnums hT hnew
      go_wp2_with fail
      refine HT.out.mono ?_
      rintro e w2 ⟨rfl, rfl⟩
      go_wp2_with fail
      go_ret
      exact ⟨⟨_, rfl, HNEW.out⟩, HB.out⟩

theorem ofN_set (l : List Nat) (i v : Nat) : (ofN l).set i (v : Int) = ofN (l.set i v) := by simp [ofN, List.map_set]
theorem ofN_zeros (n : Nat) : List.replicate n (0 : Int) = ofN (List.replicate n 0) := by simp [ofN]
theorem ofN_ne {l : List Nat} (h : 0 < l.length) : ofN l ≠ [] := fun e => by
  have h1 : (ofN l).length = 0 := by rw [e]; rfl
  rw [ofN_len] at h1; omega
theorem nums_cols {w : World} {base g c : Nat} {C : List Nat} (h : ColsAt w base (some ⟨g, 0, none⟩) (ofN C)) (h1 : C.length ≤ c) (h2 : (c : Int) ≤ 9223372036854775807) : NumsAt w (.slice (some ⟨g, 0, none⟩) C.length c) C := by
  refine ⟨_, c, rfl, h1, h2, .inr ⟨g, rfl, fun j hj => ?_⟩⟩
  rcases h with h | ⟨g', _, e, hr⟩
  · exact absurd h (ofN_ne (by omega))
  · obtain rfl : g = g' := by cases e; rfl
    have := (hr j (by rw [ofN_len]; exact hj)).1
    rwa [ofN_get] at this
set_option maxRecDepth 100000 in
set_option maxHeartbeats 4000000 in
theorem rtimes_any (A B : List Nat) (hA : DigB 10 A) (hB : DigB 10 B) (hlA : A.length ≤ 5000) (hlB : B.length ≤ 5000) (u v : Value) (w : World) (hu : NumsAt w u A) (hv : NumsAt w v B) :
    Calls Tryz.prog 67 #[u, v] w fun e w' => (∃ r, e = .returned r ∧ NumsAt w' r (digsL 10 (leV 10 A * leV 10 B))) ∧ Below w.heap.size w w' := by
  obtain ⟨i0, hi0, hz0, hz1, hz2⟩ := info_parts info_int
  have HI0 := Lib.hid hi0
  have HZ0 := Lib.hid hz0
  have HZ1 := Lib.hid hz1
  have HZ2 := Lib.hid hz2
  obtain ⟨a, ca, rfl, hva⟩ := nums_form hu
  obtain ⟨b, cb, rfl, hvb⟩ := nums_form hv
  obtain ⟨hra1, _, hva⟩ := hva.addr
  obtain ⟨hrb1, _, hvb⟩ := hvb.addr
  have HDA := Lib.hid hA
  have HDB := Lib.hid hB
  have HVA := Lib.hid hva
  have HVB := Lib.hid hvb
  obtain ⟨n, hn⟩ : ∃ n, n = A.length := ⟨_, rfl⟩
  obtain ⟨m, hm⟩ : ∃ m, m = B.length := ⟨_, rfl⟩
  have hnb : (n : Int) ≤ 5000 := by omega
  have hmb : (m : Int) ≤ 5000 := by omega
  rw [← hn] at hra1 ⊢
  rw [← hm] at hrb1 ⊢
  have HN := Lib.hid hn
  have HM := Lib.hid hm
  clear hi0 hz0 hz1 hz2 hA hB hlA hlB hu hv hva hvb hn hm
  go_enter Tryz.func67, Tryz.ntmps67
  go_wp2_with (at_make; go_must (refine wpList_make_full _ rfl _ _ 40 rfl w.heap.size 3 i0 (.int .i64 0) 1 Tryz.underlying40 HI0.out HZ0.out HZ1.out .i64 .i64 ((n : Int) + m) ((n : Int) + m) (n + m) rfl rfl (by omega) (by omega) (by rw [HZ2.out]; omega) (by unfold maxLen; omega) (Nat.le_refl _) ?_); intro w1 hown hgrow; have HC1 := Lib.hid (cols_made hown); have HB1 := Lib.hid (belowMade hgrow); clear hown hgrow)
  have HP0 : Hid (TimesT A B 0 0 (List.replicate (n + m) 0) 0) := by show TimesT _ _ _ _ _ _; rw [HN.out, HM.out]; exact TimesT.start A B
  rw [ofN_zeros] at HC1
  go_loopw [6] (fun i wr => ∃ (k : Nat) (C : List Nat), k ≤ n ∧ i = .int .i64 k ∧ TimesT A B k 0 C 0 ∧ ColsAt wr w.heap.size (some ⟨w.heap.size, 0, none⟩) (ofN C) ∧ Below w.heap.size w wr) (fun i _ => n - (intOf i).toNat)
  case atStart => exact ⟨0, _, by omega, rfl, HP0.out, HC1.out, HB1.out⟩
  case round =>
    obtain ⟨k, C, hk, rfl, hP, hcols, hB⟩ := hrel
    have HP := Lib.hid hP
    have HCO := Lib.hid hcols
    have HB := Lib.hid hB
    clear hP hcols hB
    by_cases hlt : k < n
    · have hlt' : (k : Int) < n := by omega
      obtain ⟨ga, rfl, hcell⟩ := HVA.out (by have := HN.out; omega)
      have HAX := Lib.hid (hcell k (by have := HN.out; omega))
      have hxa := dig_getD (by decide) HDA.out k
      have hxb : ((A.getD k 0 : Nat) : Int) ≤ 9 := by omega
      clear hcell hxa
      obtain ⟨x, hx⟩ : ∃ x, x = A.getD k 0 := ⟨_, rfl⟩
      rw [← hx] at HAX hxb
      have HX := Lib.hid hx
      clear hx
      go_wp2_with fail
      go_loopw [7, 8] (fun c i wr => ∃ (j cc : Nat) (C : List Nat), i = .int .i64 j ∧ c = .int .i64 cc ∧ TimesT A B k j C cc ∧ ColsAt wr w.heap.size (some ⟨w.heap.size, 0, none⟩) (ofN C) ∧ Below w.heap.size w wr) (fun _ i _ => n + m - k - (intOf i).toNat)
      case atStart => exact ⟨0, 0, _, rfl, rfl, HP.out, HCO.out, HB.out⟩
      case round =>
        obtain ⟨j, cc, C2, rfl, rfl, hP2, hcols2, hB2⟩ := hrel
        have HP2 := Lib.hid hP2
        have HCO2 := Lib.hid hcols2
        have HB2 := Lib.hid hB2
        have hcb : (cc : Int) ≤ 9 := by have := hP2.2.2.2; omega
        clear hP2 hcols2 hB2
        by_cases hjt : j < m
        · skip
          have hpl := HP2.out.place HDA.out HDB.out (by have := HN.out; omega) (.inl (by have := HM.out; omega))
          have hpl2 : k + j < n + m := by have := HN.out; have := HM.out; omega
          have hkj : (k : Int) + j < (n : Int) + m := by omega
          have hidx : k + j < (ofN C2).length := by rw [ofN_len]; have := HP2.out.1; omega
          obtain ⟨g, hg, hge, hrow⟩ := HCO2.out.at hidx
          obtain rfl : w.heap.size = g := by cases hge; rfl
          obtain ⟨hcx, hfx⟩ := hrow (k + j) hidx
          rw [ofN_get] at hcx
          have htn : ((k : Int) + j).toNat = k + j := by omega
          have hst := HP2.out.step HDA.out HDB.out hpl
          rw [← HX.out] at hst
          have hcd := dig_getD (by decide) HP2.out.2.1 (k + j)
          have hcd' : ((C2.getD (k + j) 0 : Nat) : Int) ≤ 9 := by omega
          have hjt' : (j : Int) < m := by omega
          obtain ⟨gb, rfl, hcell⟩ := HVB.out (by have := HM.out; omega)
          have hby := keptBelow HB2.out (hcell j (by have := HM.out; omega))
          have hax := keptBelow HB2.out HAX.out
          have hyb := dig_getD (by decide) HDB.out j
          have hmul : x * B.getD j 0 ≤ 9 * 9 := Nat.mul_le_mul (by omega) (by omega)
          obtain ⟨z, hz⟩ : ∃ z, z = x * B.getD j 0 := ⟨_, rfl⟩
          have hzz : (x : Int) * ((B.getD j 0 : Nat) : Int) = (z : Nat) := by rw [hz, Int.natCast_mul]
          rw [← hz] at hst hmul
          have hyb' : ((B.getD j 0 : Nat) : Int) ≤ 9 := by omega
          have hzb : (z : Int) ≤ 81 := by omega
          obtain ⟨d, hd⟩ : ∃ d, d = (C2.getD (k + j) 0 + cc + z) % 10 := ⟨_, rfl⟩
          obtain ⟨q, hq⟩ : ∃ q, q = (C2.getD (k + j) 0 + cc + z) / 10 := ⟨_, rfl⟩
          rw [← hd, ← hq] at hst
          have hm1 : (((C2.getD (k + j) 0 : Nat) : Int) + (cc : Int) + (z : Int)) % 10 = (d : Nat) := by omega
          have hm2 : (((C2.getD (k + j) 0 : Nat) : Int) + (cc : Int) + (z : Int)).tmod 10 = (d : Nat) := by rw [Int.tmod_eq_emod_of_nonneg (by omega)]; exact hm1
          have hm3 : (((C2.getD (k + j) 0 : Nat) : Int) + (cc : Int) + (z : Int)) / 10 = (q : Nat) := by omega
          have hm4 : (((C2.getD (k + j) 0 : Nat) : Int) + (cc : Int) + (z : Int)).tdiv 10 = (q : Nat) := by rw [Int.tdiv_eq_ediv_of_nonneg (by omega)]; exact hm3
          have hd9 : (d : Int) ≤ 9 := by omega
          have hq9 : (q : Int) ≤ 9 := by have := hst.2.2.2; omega
          have HRW := Lib.hid (fun (W : World) (h : RowAt W w.heap.size (ofN C2)) => by have := h.set (k + j) hidx (d : Int); rw [ofN_set] at this; exact this)
          have HROW := Lib.hid hrow
          have HST := Lib.hid hst
          have HMES : Hid (n + m - k - (j + 1) < n + m - k - j) := by show _ < _; omega
          have hjb : (j : Int) ≤ 10000 := by omega
          clear hst hrow hge hd hq hpl hpl2 hidx hcd hcell hyb hmul hz
          generalize C2.getD (k + j) 0 = c at *
          generalize B.getD j 0 = y at *
          go_wp2_with fail
          go_quiet (fail)
          have hcx2 : (wr.drewN nq).cell? ⟨w.heap.size, k + j, none⟩ = some (.int .i64 (c : Nat)) := hcx
          have hfx2 : (wr.drewN nq).frozen? ⟨w.heap.size, k + j, none⟩ = false := hfx
          have HRW2 := Lib.hid (HRW.out (wr.drewN nq) HROW.out)
          have HBE := Lib.hid (below_set (below_drewN HB2.out nq) hg (i := k + j) (.int .i64 (d : Nat)))
          generalize wr.drewN nq = w9 at *
          go_wp2_with fail
          go_roundw
          case rel => exact ⟨j + 1, q, _, by go_num, by go_num, HST.out, .inr ⟨_, hg, rfl, HRW2.out⟩, HBE.out⟩
          case measure => have := HMES.out; simp [intOf]; omega
        · by_cases hc : 0 < cc
          · have hc' : (0 : Int) < cc := by omega
            have hpl := HP2.out.place HDA.out HDB.out (by have := HN.out; omega) (.inr hc)
            have hpl2 : k + j < n + m := by have := HN.out; have := HM.out; omega
            have hkj : (k : Int) + j < (n : Int) + m := by omega
            have hidx : k + j < (ofN C2).length := by rw [ofN_len]; have := HP2.out.1; omega
            obtain ⟨g, hg, hge, hrow⟩ := HCO2.out.at hidx
            obtain rfl : w.heap.size = g := by cases hge; rfl
            obtain ⟨hcx, hfx⟩ := hrow (k + j) hidx
            rw [ofN_get] at hcx
            have htn : ((k : Int) + j).toNat = k + j := by omega
            have hst := HP2.out.step HDA.out HDB.out hpl
            rw [← HX.out] at hst
            have hcd := dig_getD (by decide) HP2.out.2.1 (k + j)
            have hcd' : ((C2.getD (k + j) 0 : Nat) : Int) ≤ 9 := by omega
            have hjt' : (m : Int) ≤ j := by omega
            rw [getD_far (l := B) (k := j) (by have := HM.out; omega)] at hst
            simp only [Nat.mul_zero, Nat.add_zero] at hst
            obtain ⟨d, hd⟩ : ∃ d, d = (C2.getD (k + j) 0 + cc) % 10 := ⟨_, rfl⟩
            obtain ⟨q, hq⟩ : ∃ q, q = (C2.getD (k + j) 0 + cc) / 10 := ⟨_, rfl⟩
            rw [← hd, ← hq] at hst
            have hm1 : (((C2.getD (k + j) 0 : Nat) : Int) + (cc : Int)) % 10 = (d : Nat) := by omega
            have hm2 : (((C2.getD (k + j) 0 : Nat) : Int) + (cc : Int)).tmod 10 = (d : Nat) := by rw [Int.tmod_eq_emod_of_nonneg (by omega)]; exact hm1
            have hm3 : (((C2.getD (k + j) 0 : Nat) : Int) + (cc : Int)) / 10 = (q : Nat) := by omega
            have hm4 : (((C2.getD (k + j) 0 : Nat) : Int) + (cc : Int)).tdiv 10 = (q : Nat) := by rw [Int.tdiv_eq_ediv_of_nonneg (by omega)]; exact hm3
            have hd9 : (d : Int) ≤ 9 := by omega
            have hq9 : (q : Int) ≤ 9 := by have := hst.2.2.2; omega
            have hrow2 := hrow.set (k + j) hidx (d : Int)
            rw [ofN_set] at hrow2
            have HRW := Lib.hid hrow2
            have HBE := Lib.hid (below_set HB2.out hg (i := k + j) (.int .i64 (d : Nat)))
            have HST := Lib.hid hst
            have HMES : Hid (n + m - k - (j + 1) < n + m - k - j) := by show _ < _; omega
            have hjb : (j : Int) ≤ 10000 := by omega
            clear hst hrow hge hd hq hpl hpl2 hidx hcd hrow2
            generalize C2.getD (k + j) 0 = c at *
            go_wp2_with fail
            go_roundw
            case rel => exact ⟨j + 1, q, _, by go_num, by go_num, HST.out, .inr ⟨_, hg, rfl, HRW.out⟩, HBE.out⟩
            case measure => have := HMES.out; simp [intOf]; omega
          · obtain rfl : cc = 0 := by omega
            have hjt' : (m : Int) ≤ j := by omega
            have HP3 := Lib.hid (HP2.out.next (by have := HM.out; omega))
            go_wp2_with fail
            go_roundw
            case rel => exact ⟨k + 1, _, by omega, by go_num, HP3.out, HCO2.out, HB2.out⟩
            case measure => simp [intOf]; omega
    · obtain rfl : k = n := by omega
      have hlC : C.length = k + m := by have := HP.out.1; have := HN.out; have := HM.out; omega
      have hE := HP.out.done (by have := HN.out; omega)
      have hnums := nums_cols HCO.out (c := k + m) (by omega) (by omega)
      have hT := rtrim_any C (by omega) _ wr hnums
      rw [hE, hlC] at hT
      have HT := Lib.hid hT
      clear hE hnums hT hlC
      go_wp2_with fail
      refine HT.out.mono ?_
      rintro e w2 ⟨r, rfl, hr, rfl⟩
      have HR := Lib.hid hr
      obtain ⟨_, _, rfl, _⟩ := hr
      go_wp2_with fail
      go_ret
      exact ⟨⟨_, rfl, HR.out⟩, HB.out⟩
end Go.Proofs.YtelckldddflmmaaGreatDoor
/- IntRefDiv: The reference's quotient of two lists of digits, and the copy without zeros in front. -/
namespace Go.Proofs.YtelckldddflmmaaGreatDoor
open Go.RowKit Putlog

theorem dlen_lt {x k : Nat} (h : x < 10 ^ k) : (digsL 10 x).length ≤ k := (digsL_len (by decide) x k).2 h
theorem dlen_of {x k : Nat} (h : (digsL 10 x).length ≤ k) : x < 10 ^ k := (digsL_len (by decide) x k).1 h
theorem dlen_mono {x y k : Nat} (h : x ≤ y) (hy : (digsL 10 y).length ≤ k) : (digsL 10 x).length ≤ k := dlen_lt (Nat.lt_of_le_of_lt h (dlen_of hy))
theorem dlen_ten {x y k : Nat} (h : x < 10 * y) (hy : (digsL 10 y).length ≤ k) : (digsL 10 x).length ≤ k + 1 := dlen_lt (by have := dlen_of hy; rw [Nat.pow_succ]; omega)
theorem dlen_mul {x y j k : Nat} (hx : (digsL 10 x).length ≤ j) (hy : (digsL 10 y).length ≤ k) : (digsL 10 (x * y)).length ≤ j + k := dlen_lt (by rw [Nat.pow_add]; exact Nat.mul_lt_mul_of_lt_of_le (dlen_of hx) (Nat.le_of_lt (dlen_of hy)) (Nat.pow_pos (by decide)))
theorem dlen_add {x y k : Nat} (hx : (digsL 10 x).length ≤ k) (hy : (digsL 10 y).length ≤ k) : (digsL 10 (x + y)).length ≤ k + 1 := dlen_lt (by have := dlen_of hx; have := dlen_of hy; rw [Nat.pow_succ]; omega)
theorem rcmpN (x y : Nat) (hx : (digsL 10 x).length ≤ 5000) (hy : (digsL 10 y).length ≤ 5000) (u v : Value) (w : World) (hu : NumsAt w u (digsL 10 x)) (hv : NumsAt w v (digsL 10 y)) :
    Calls Tryz.prog 77 #[u, v] w fun e w' => e = .returned (.int .i64 (cmpI (x : Nat) (y : Nat))) ∧ Below w.heap.size w w' := by
  have h := rorder_any (digsL 10 x) (digsL 10 y) (digsL_dig (by decide) x) (digsL_dig (by decide) y) (digsL_norm (by decide) x) (digsL_norm (by decide) y) hx hy u v w hu hv
  rw [leV_digsL (by decide), leV_digsL (by decide)] at h
  exact h
theorem rplusN (x y : Nat) (hx : (digsL 10 x).length ≤ 5000) (hy : (digsL 10 y).length ≤ 5000) (u v : Value) (w : World) (hu : NumsAt w u (digsL 10 x)) (hv : NumsAt w v (digsL 10 y)) :
    Calls Tryz.prog 74 #[u, v] w fun e w' => (∃ r, e = .returned r ∧ NumsAt w' r (digsL 10 (x + y))) ∧ Below w.heap.size w w' := by
  have h := rplus_any (digsL 10 x) (digsL 10 y) (digsL_dig (by decide) x) (digsL_dig (by decide) y) (digsL_norm (by decide) x) (digsL_norm (by decide) y) hx hy u v w hu hv
  rw [leV_digsL (by decide), leV_digsL (by decide)] at h
  exact h
theorem rminusN (x y : Nat) (hx : (digsL 10 x).length ≤ 5000) (hle : y ≤ x) (u v : Value) (w : World) (hu : NumsAt w u (digsL 10 x)) (hv : NumsAt w v (digsL 10 y)) :
    Calls Tryz.prog 75 #[u, v] w fun e w' => (∃ r, e = .returned r ∧ NumsNew w' w.heap.size r (digsL 10 (x - y))) ∧ Below w.heap.size w w' := by
  have h := rminus_any (digsL 10 x) (digsL 10 y) (digsL_dig (by decide) x) (digsL_dig (by decide) y) (digsL_norm (by decide) y) hx (by rw [leV_digsL (by decide), leV_digsL (by decide)]; exact hle) u v w hu hv
  rw [leV_digsL (by decide), leV_digsL (by decide)] at h
  exact h
theorem rtimesN (x y : Nat) (hx : (digsL 10 x).length ≤ 5000) (hy : (digsL 10 y).length ≤ 5000) (u v : Value) (w : World) (hu : NumsAt w u (digsL 10 x)) (hv : NumsAt w v (digsL 10 y)) :
    Calls Tryz.prog 67 #[u, v] w fun e w' => (∃ r, e = .returned r ∧ NumsAt w' r (digsL 10 (x * y))) ∧ Below w.heap.size w w' := by
  have h := rtimes_any (digsL 10 x) (digsL 10 y) (digsL_dig (by decide) x) (digsL_dig (by decide) y) hx hy u v w hu hv
  rw [leV_digsL (by decide), leV_digsL (by decide)] at h
  exact h

theorem nums_add {w : World} {a : Option Addr} {l : List Nat} {c : Nat} (h : NumsAt w (.slice a l.length c) l) {o : Obj} : ∀ ad, a = some ad → ∀ j u, (i64l l)[j]? = some u → (w.alloc o).cell? (ad.add j) = some u := by
  intro ad he j u hj
  have hjl : j < l.length := by have := (List.getElem?_eq_some_iff.1 hj).1; simpa [i64l] using this
  obtain ⟨_, _, h3⟩ := h.addr
  obtain ⟨g, hg, hcell⟩ := h3 (by omega)
  rw [he] at hg
  obtain rfl := Option.some.inj hg
  rw [Addr.add_lit, Nat.zero_add]
  rw [i64l_get hjl] at hj
  obtain rfl := Option.some.inj hj
  exact cellA o (hcell j hjl)
theorem i64_one (l : List Nat) : ∀ u ∈ i64l l, u.oneCell' = true := by
  intro u hu
  obtain ⟨x, _, rfl⟩ := List.mem_map.1 hu
  rfl
theorem i64_len (l : List Nat) : (i64l l).length = l.length := by simp [i64l]
/-- append of a list of numbers, nil or not, to a slice that the call owns. -/
theorem wpList_append_nums {P : Program} {ops : Array Oper} {rest : List Oper} {o : Oper} {a : Act} {w : World} {Q : Exit → Act → World → Prop}
    (hg : o.guard = none) (s x : Operand) (t : TypeId) (hop : o.op = Op.call { callee := Callee.builtin Builtin.append, args := #[s, x], argTypes := #[t, t] })
    (base : Nat) (e : TypeId) (i : TypeInfo) (z : Value) (bytes : Nat) (h1 : P.underlying t = some (.slice e)) (h2 : P.info? e = some i) (h3 : i.zero = some z) (h4 : i.size = 1) (h5 : i.bytes = bytes) (h6 : z.cells.size = 1)
    (v : Value) (k : Nat) (xs : List Value) (hs : a.eval s = v) (hown : w.ownsRow base e 1 v k xs) (ad : Option Addr) (c : Nat) (l : List Nat) (hx : a.eval x = .slice ad l.length c)
    (hS : ∀ ad', ad = some ad' → ∀ j u, (i64l l)[j]? = some u → w.cell? (ad'.add j) = some u) (h0 : ad = none → l = []) (b1 : k + l.length ≤ maxLen) (b2 : (k + l.length) * bytes ≤ 140737488355328) (b3 : base ≤ w.heap.size)
    (h : ∀ v' w', w'.ownsRow base e 1 v' (k + l.length) (xs ++ i64l l) → w.grownBy w' v.ownBlock → wpList P ops Q rest (a.put o.dst v') w') : wpList P ops Q (o :: rest) a w :=
  wpList_plain hg fun K hK => by
    cases ad with
    | some ad =>
      have := step_append_own (ops := ops) (K := K) (Q := Q) (E := False) hg s x t hop base e i z 1 bytes h1 h2 h3 h4 h5 h6 (by decide) v k xs hs hown ad l.length c (i64l l) hx (by rw [i64_len, Nat.mul_one]) (hS ad rfl) (i64_one l) b1 b2 b3 (fun v' w' h7 h8 => hK _ _ (h v' w' h7 h8))
      rwa [if_pos (by simp [Region.wanted, hg])] at this
    | none =>
      obtain rfl := h0 rfl
      have hrun : (Builtin.append_ #[t, t] o.type #[v, .slice none 0 c]).run P w = .ok v w := by
        rcases hown.2 with ⟨rfl, rfl⟩ | ⟨g, cap, cur, rfl, _, _, hnc, _⟩
        · simp [Builtin.append_, run_underlying h1, sizeOf, typeInfo, h2, Builtin.lenOf, Builtin.firstCells]
        · simp [Builtin.append_, run_underlying h1, sizeOf, typeInfo, h2, Builtin.lenOf, Builtin.firstCells, hnc, storeCells]
      unfold Oper.wp
      simp [execOp, hop, resolve, invoke, builtin, hs, hx, hrun, Result.andThen]
      refine hK _ _ (h v w ?_ (World.grownBy.refl _ _))
      simpa [i64l] using hown
theorem lit_one (W : World) (x : Value) : (W.alloc (.cells #[x] 3)).ownsRow W.heap.size 3 1 (.slice (some ⟨W.heap.size, 0, none⟩) 1 1) 1 [x] :=
  ⟨by simp, .inr ⟨W.heap.size, 1, #[x], rfl, Nat.le_refl _, heap_alloc_new W _, Nat.le_refl _, by unfold maxLen; omega, by simp, by simp⟩⟩
theorem ColsAt.via {w w' : World} {base : Nat} {a : Option Addr} {C : List Int} (h : ColsAt w base a C) (hB : Below w.heap.size w w') : ColsAt w' base a C := by
  rcases h with h | ⟨g, h1, h2, h3⟩
  · exact .inl h
  · exact .inr ⟨g, h1, h2, h3.via hB⟩
theorem fresh_below {W w9 : World} {o : Obj} {n c : Nat} (hg : (W.alloc o).grownBy w9 (Value.slice (some ⟨W.heap.size, 0, none⟩) n c).ownBlock) : Below W.heap.size W w9 :=
  ((Below.refl _ W).alloc (Nat.le_refl _) _).grown hg (by simp) (by intro k hk; cases hk; exact Nat.le_refl _)
theorem nums_cons {W : World} {B d : Nat} {v : Value} {l : List Nat} (h : W.ownsRow B 3 1 v (1 + l.length) ([Value.int .i64 (d : Nat)] ++ i64l l)) : NumsAt W v (d :: l) := by
  refine NumsAt.of_owns (B := B) (t := 3) ?_
  rw [List.length_cons, Nat.add_comm]
  simpa [i64l] using h
def cellN (w : World) (b i : Nat) : Nat := ((w.cell? ⟨b, i, none⟩).map intOf).getD 0 |>.toNat
theorem cellN_of {w : World} {b i x : Nat} (h : w.cell? ⟨b, i, none⟩ = some (.int .i64 (x : Nat))) : cellN w b i = x := by simp [cellN, h, intOf]
set_option maxRecDepth 100000 in
set_option maxHeartbeats 4000000 in
theorem rdivided_any (A : List Nat) (y : Nat) (hA : DigB 10 A) (hy : 0 < y) (hlA : A.length ≤ 4000) (hlB : (digsL 10 y).length ≤ 4000) (u v : Value) (w : World) (hu : NumsAt w u A) (hv : NumsAt w v (digsL 10 y)) :
    Calls Tryz.prog 73 #[u, v] w fun e w' => (∃ r s, e = .returned (.tuple #[r, s]) ∧ NumsAt w' r (digsL 10 (leV 10 A / y)) ∧ NumsAt w' s (digsL 10 (leV 10 A % y))) ∧ Below w.heap.size w w' := by
  obtain ⟨i0, hi0, hz0, hz1, hz2⟩ := info_parts info_int
  have HI0 := Lib.hid hi0
  have HZ0 := Lib.hid hz0
  have HZ1 := Lib.hid hz1
  have HZ2 := Lib.hid hz2
  obtain ⟨a, ca, rfl, hva⟩ := nums_form hu
  have HV := Lib.hid hv
  obtain ⟨b, cb, rfl, _⟩ := nums_form hv
  obtain ⟨hra1, _, hva⟩ := hva.addr
  have HDA := Lib.hid hA
  have HVA := Lib.hid hva
  have HY := Lib.hid hy
  obtain ⟨K, hK, hyK⟩ : ∃ K, K ≤ 4000 ∧ y < 10 ^ K := ⟨_, hlB, dlen_of (Nat.le_refl _)⟩
  have HK := Lib.hid hK
  have HLB := Lib.hid hyK
  obtain ⟨n, hn⟩ : ∃ n, n = A.length := ⟨_, rfl⟩
  have hnb : (n : Int) ≤ 4000 := by omega
  rw [← hn] at hra1 ⊢
  have HN := Lib.hid hn
  clear hi0 hz0 hz1 hz2 hA hlA hlB hu hv hva hn hy hK hyK
  generalize (digsL 10 y).length = m at *
  go_enter Tryz.func73, Tryz.ntmps73
  go_wp2_with (at_make; go_must (refine wpList_make_full _ rfl _ _ 40 rfl w.heap.size 3 i0 (.int .i64 0) 1 Tryz.underlying40 HI0.out HZ0.out HZ1.out .i64 .i64 (n : Int) (n : Int) n rfl rfl (by omega) (by omega) (by rw [HZ2.out]; omega) (by unfold maxLen; omega) (Nat.le_refl _) ?_); intro w1 hown hgrow; have HC1 := Lib.hid (cols_made hown); have HB1 := Lib.hid (belowMade hgrow); clear hown hgrow)
  have HP0 : Hid (DivT A y n (List.replicate n 0) 0) := by show DivT _ _ _ _ _; rw [HN.out]; exact DivT.start A HY.out
  rw [ofN_zeros] at HC1
  go_loopw [7, 8] (fun r i wr => ∃ (k : Nat) (Q : List Nat) (R : Nat), k ≤ n ∧ i = .int .i64 ((k : Int) - 1) ∧ NumsAt wr r (digsL 10 R) ∧ DivT A y k Q R ∧ ColsAt wr w.heap.size (some ⟨w.heap.size, 0, none⟩) (ofN Q) ∧ Below w.heap.size w wr) (fun _ i _ => (1 + intOf i).toNat)
  case atStart => exact ⟨n, _, 0, Nat.le_refl _, rfl, by rw [digsL_zero]; exact ⟨none, 0, rfl, Nat.le_refl _, by omega, .inl ⟨rfl, rfl⟩⟩, HP0.out, HC1.out, HB1.out⟩
  case round =>
    obtain ⟨k, C, R, hk, rfl, hr, hP, hcols, hB⟩ := hrel
    have HR := Lib.hid hr
    have HP := Lib.hid hP
    have HCO := Lib.hid hcols
    have HB := Lib.hid hB
    obtain ⟨ra, rc, rfl, hr2⟩ := nums_form hr
    have hl1 : C.length = n := by rw [HN.out]; exact hP.1
    clear hP hcols hB
    rcases Nat.eq_zero_or_pos k with rfl | h0
    · have hE := HP.out.done
      have hnums := nums_cols HCO.out (c := n) (by omega) (by omega)
      have hT := rtrim_any C (by omega) _ wr hnums
      rw [hE.1, hl1] at hT
      have HT := Lib.hid hT
      have HRR : Hid (NumsAt wr (.slice ra (digsL 10 R).length rc) (digsL 10 (leV 10 A % y))) := by show NumsAt _ _ _; rw [← hE.2]; exact hr2
      clear hE hnums hT hl1 hr hr2
      generalize (digsL 10 R).length = lr at *
      go_wp2_with fail
      refine HT.out.mono ?_
      rintro e w2 ⟨r, rfl, hr, rfl⟩
      have HR2 := Lib.hid hr
      obtain ⟨_, _, rfl, _⟩ := hr
      go_wp2_with fail
      go_ret2
      exact ⟨⟨_, _, rfl, HR2.out, HRR.out⟩, HB.out⟩
    · obtain ⟨q, rfl⟩ : ∃ q, k = q + 1 := ⟨k - 1, by omega⟩
      have hqe : ((q + 1 : Nat) : Int) - 1 = q := by omega
      have hqn : (q : Int) < n := by omega
      rw [hqe]
      obtain ⟨ga, rfl, hca⟩ := HVA.out (by have := HN.out; omega)
      have hcx := keptBelow HB.out (hca q (by have := HN.out; omega))
      have hxa := dig_getD (by decide) HDA.out q
      have HI := Lib.hid (HP.out.open HDA.out (by have := HN.out; omega))
      have hRy : R < y := HP.out.2.2.2.2
      have HLR : Hid ((digsL 10 R).length ≤ 4000) := Nat.le_trans (dlen_lt (Nat.lt_trans hRy HLB.out)) HK.out
      have HNA := Lib.hid hr2
      have HTR : Hid (trimL (A.getD q 0 :: digsL 10 R) = digsL 10 (A.getD q 0 + 10 * R)) := digs_trim (DigB.cons hxa (digsL_dig (by decide) R)) (by rw [leV, leV_digsL (by decide)])
      have HNO : Hid (ra = none → digsL 10 R = []) := fun e => by
        subst e
        rcases Nat.eq_zero_or_pos (digsL 10 R).length with h | h
        · exact List.length_eq_zero_iff.1 h
        · obtain ⟨_, _, h3⟩ := hr2.addr
          obtain ⟨g, hg, _⟩ := h3 h
          cases hg
      clear hca hxa hRy hr hr2 hqe
      generalize A.getD q 0 = x at *
      generalize digsL 10 R = L at *
      go_wp2_with (at_builtin; refine wpList_append_nums rfl _ _ 40 rfl wr.heap.size 3 i0 (.int .i64 0) 8 Tryz.underlying40 HI0.out HZ0.out HZ1.out HZ2.out rfl _ 1 [.int .i64 (x : Nat)] (by rfl) (lit_one wr _) ra rc L (by rfl) (nums_add HNA.out) HNO.out (by have := HLR.out; unfold maxLen; omega) (by have := HLR.out; omega) (by simp) ?_; intro v2 w9 hown9 hgrow9)
      have HB9 := Lib.hid (fresh_below hgrow9)
      have HNC := Lib.hid (nums_cons hown9)
      clear hown9 hgrow9
      have hT := fun W h => rtrim_any (x :: L) (by have := HLR.out; rw [List.length_cons]; omega) v2 W h
      rw [HTR.out] at hT
      have HT := Lib.hid hT
      clear hT
      go_wp2_with fail
      refine (HT.out _ HNC.out).mono ?_
      rintro e w2 ⟨r2, rfl, hr2, rfl⟩
      have HR2 := Lib.hid hr2
      have HCO2 := Lib.hid (HCO.out.via HB9.out)
      have HB2 := Lib.hid (belowVia HB9.out HB.out)
      obtain ⟨_, _, rfl, _⟩ := hr2
      generalize x + 10 * R = R1 at *
      go_wp2_with fail
      go_loopw [7] (fun r wr => ∃ (Q : List Nat) (R : Nat), NumsAt wr r (digsL 10 R) ∧ DivI A y q Q R ∧ ColsAt wr w.heap.size (some ⟨w.heap.size, 0, none⟩) (ofN Q) ∧ Below w.heap.size w wr) (fun _ wr => 10 - cellN wr w.heap.size q)
      case atStart => exact ⟨_, _, HR2.out, HI.out, HCO2.out, HB2.out⟩
      case round =>
        clear HR2 HI HCO2 HB2 HT HB9 HNC HTR HNA
        obtain ⟨C3, R3, hr3, hI3, hcols3, hB3⟩ := hrel
        have HR3 := Lib.hid hr3
        have HI3 := Lib.hid hI3
        have HCO3 := Lib.hid hcols3
        have HB3 := Lib.hid hB3
        have hl3 : (digsL 10 R3).length ≤ K + 1 := dlen_lt (by have h1 := HLB.out; have h2 := hI3.2.2.2.2; rw [Nat.pow_succ]; omega)
        have hly : (digsL 10 y).length ≤ K := dlen_lt HLB.out
        obtain ⟨ra3, rc3, rfl, _⟩ := nums_form hr3
        obtain ⟨kk, hkk⟩ : ∃ kk, kk = cmpI (R3 : Nat) (y : Nat) := ⟨_, rfl⟩
        have hkb : -1 ≤ kk ∧ kk ≤ 1 := by rw [hkk]; unfold cmpI; split <;> (try split) <;> omega
        obtain ⟨hkb1, hkb2⟩ := hkb
        have hC := fun W h1 h2 => rcmpN R3 y (by have := HK.out; omega) (by have := HK.out; omega) (.slice ra3 (digsL 10 R3).length rc3) (.slice b m cb) W h1 h2
        rw [← hkk] at hC
        have HC := Lib.hid hC
        have HM := Lib.hid (fun (hle : y ≤ R3) W h1 h2 => rminusN R3 y (by have := HK.out; omega) hle (.slice ra3 (digsL 10 R3).length rc3) (.slice b m cb) W h1 h2)
        have HVW := Lib.hid (NumsAt.via HB3.out HV.out)
        clear hC hl3 hly hr3 hcols3 hB3
        by_cases hle : y ≤ R3
        · have hk0 : 0 ≤ kk := by rw [hkk]; unfold cmpI; split <;> (try split) <;> omega
          have hidx : q < (ofN C3).length := by rw [ofN_len]; have h1 := hI3.1; have := HN.out; omega
          have hd9 := hI3.digit hle
          have hd9' : ((C3.getD q 0 : Nat) : Int) < 9 := by omega
          have HST := Lib.hid (hI3.step (by have := HN.out; omega) hle)
          have HIX := Lib.hid hidx
          have HLE := Lib.hid hle
          clear hI3 hidx hd9 hkk hle
          generalize (digsL 10 R3).length = l3 at *
          go_wp2_with fail
          refine (HC.out _ HR3.out HVW.out).mono ?_
          rintro e w4 ⟨rfl, hB4⟩
          have HR4 := Lib.hid (NumsAt.via hB4 HR3.out)
          have HV4 := Lib.hid (NumsAt.via hB4 HVW.out)
          have HCO4 := Lib.hid (HCO3.out.via hB4)
          have HB4 := Lib.hid (belowVia hB4 HB3.out)
          clear hB4
          go_wp2_with fail
          refine (HM.out HLE.out _ HR4.out HV4.out).mono ?_
          rintro e w5 ⟨⟨r5, rfl, hr5⟩, hB5⟩
          have hco5 := HCO4.out.via hB5
          have HB5 := Lib.hid (belowVia hB5 HB4.out)
          obtain ⟨g, hg, hge, hrow⟩ := hco5.at HIX.out
          obtain rfl : w.heap.size = g := by cases hge; rfl
          obtain ⟨hcx5, hfx5⟩ := hrow q HIX.out
          have hrow2 := hrow.set q HIX.out ((C3.getD q 0 + 1 : Nat) : Int)
          rw [ofN_set] at hrow2
          rw [ofN_get] at hcx5
          have HRW := Lib.hid hrow2
          have HBE := Lib.hid (below_set HB5.out hg (i := q) (.int .i64 ((C3.getD q 0 + 1 : Nat) : Int)))
          have hq1 := (hrow2 q (by rw [ofN_len, List.length_set]; have := HIX.out; rwa [ofN_len] at this)).1
          have HIX2 : Hid (q < C3.length) := by show _ < _; have := HIX.out; rwa [ofN_len] at this
          rw [ofN_get, setN_get _ _ _ _ HIX2.out, if_pos rfl] at hq1
          have HME := Lib.hid (cellN_of hq1)
          have HRF : Hid (NumsAt (w5.setCell ⟨w.heap.size, q, none⟩ (.int .i64 ((C3.getD q 0 + 1 : Nat) : Int))) r5 (digsL 10 (R3 - y))) := by
            have hs : w.heap.size < w4.heap.size := by
              obtain ⟨g9, _, e9, hr9⟩ := HCO4.out.at HIX.out
              obtain rfl : w.heap.size = g9 := by cases e9; rfl
              exact lt_of_cell (hr9 q HIX.out).1
            exact hr5.set hs
          have HMW : Hid (cellN wr w.heap.size q = C3.getD q 0) := by
            obtain ⟨g, _, hge, hrow⟩ := HCO3.out.at HIX.out
            obtain rfl : w.heap.size = g := by cases hge; rfl
            have := (hrow q HIX.out).1
            rw [ofN_get] at this
            exact cellN_of this
          obtain ⟨_, _, rfl, _⟩ := hr5.1
          have hc1 : ((C3.getD q 0 + 1 : Nat) : Int) = ((C3.getD q 0 : Nat) : Int) + 1 := by omega
          rw [hc1] at HRW HBE HRF HME
          clear hB5 hco5 hge hrow hrow2 hq1 hc1
          generalize hd : C3.getD q 0 = d at *
          go_wp2_with fail
          go_roundw
          case rel => exact ⟨_, _, HRF.out, HST.out, .inr ⟨_, hg, rfl, HRW.out⟩, HBE.out⟩
          case measure => rw [HME.out, HMW.out]; omega
        · have hk0 : kk < 0 := by rw [hkk]; unfold cmpI; split <;> (try split) <;> omega
          have HDT := Lib.hid (hI3.close (by omega))
          clear hI3 hkk hle HM
          generalize (digsL 10 R3).length = l3 at *
          go_wp2_with fail
          refine (HC.out _ HR3.out HVW.out).mono ?_
          rintro e w4 ⟨rfl, hB4⟩
          have HR4 := Lib.hid (NumsAt.via hB4 HR3.out)
          have HCO4 := Lib.hid (HCO3.out.via hB4)
          have HB4 := Lib.hid (belowVia hB4 HB3.out)
          clear hB4
          go_wp2_with fail
          go_roundw
          case rel => exact ⟨q, _, _, by omega, by go_num, HR4.out, HDT.out, HCO4.out, HB4.out⟩
          case measure => simp [intOf]; omega
end Go.Proofs.YtelckldddflmmaaGreatDoor
/- IntRefRead: The reference's Valid, and the digits of a valid integer. -/
namespace Go.Proofs.YtelckldddflmmaaGreatDoor
open Go.RowKit Putlog

def coreT (l : List UInt8) : Bool := l.all isDigB && !l.isEmpty && decide (l.length ≤ 200) && (l == [48] || !(l.head? == some 48))
theorem coreT_pos {l : List UInt8} (h : l.head? ≠ some 45) : validT l = coreT l := by unfold validT coreT; rw [if_neg h]
theorem coreT_neg {l : List UInt8} (h : l.head? = some 45) (h2 : l.tail ≠ [48]) : validT l = coreT l.tail := by
  unfold validT coreT
  have : (l.tail == [48]) = false := by simpa using h2
  rw [if_pos h, this, Bool.false_or]
theorem coreT_neg0 {l : List UInt8} (h : l.head? = some 45) (h2 : l.tail = [48]) : validT l = false := by
  unfold validT
  rw [if_pos h, h2]; decide
theorem ten_nodig {l : List UInt8} {k : Nat} (h : k < l.length) (hd : ¬ IsDig l[k]) : coreT l = false := by
  have : l.all isDigB = false := by
    rw [Bool.eq_false_iff]
    intro h2
    exact hd ((all_isDigB l).1 h2 _ (List.getElem_mem h))
  unfold coreT; rw [this]; rfl
theorem ba_list (d : ByteArray) : d.data.toList.length = d.size ∧ ∀ k (_h : k < d.size), ∃ h2 : k < d.data.toList.length, d[k] = d.data.toList[k]'h2 := by
  have hsz : d.data.toList.length = d.size := by rw [Array.length_toList]; rfl
  exact ⟨hsz, fun k h => ⟨by omega, by simp [ByteArray.getElem_eq_getElem_data]⟩⟩
theorem ba_tail (s : ByteArray) : (s.extract 1 s.size).data.toList = s.data.toList.tail := by
  have h1 := (ba_list s).1
  simp [List.extract_eq_take_drop]
  exact List.take_of_length_le (by simp)
theorem ba_head {s : ByteArray} (h : 0 < s.size) : s.data.toList.head? = some s[0] := by
  obtain ⟨h1, h2⟩ := ba_list s
  obtain ⟨h3, h4⟩ := h2 0 h
  rw [h4, List.head?_eq_getElem?, List.getElem?_eq_getElem h3]
set_option maxRecDepth 100000 in
set_option maxHeartbeats 4000000 in
theorem rvalid_any (s : ByteArray) (hs : (s.size : Int) ≤ 9223372036854775807) (w : World) :
    Calls Tryz.prog 53 #[.string s] w fun e w' => e = .returned (.bool (validT s.data.toList)) ∧ w' = w := by
  rcases Nat.eq_zero_or_pos s.size with z0 | z0
  · have hnil : s.data.toList = [] := List.length_eq_zero_iff.1 (by rw [(ba_list s).1]; exact z0)
    have hz : (s.size : Int) = 0 := by omega
    have hdz : decide ((0 : Int) < s.size) = false := by rw [hz]; rfl
    have hE : validT s.data.toList = false := by rw [hnil]; rfl
    rw [hE]
    clear hnil hE
    go_enter Tryz.func53, Tryz.ntmps53
    go_wp2_with fail
    go_loopw [3] (fun i wr => i = .int .i64 0 ∧ wr = w) (fun _ _ => 0)
    case atStart => exact ⟨rfl, rfl⟩
    case round =>
      obtain ⟨rfl, rfl⟩ := hrel
      go_wp2_with fail
      go_ret
      exact ⟨rfl, rfl⟩
  · have z0' : (0 : Int) < s.size := by omega
    have hh := ba_head z0
    by_cases h45 : s[0] = 45
    · have e45 : (((s[0]).toNat : Int) == 45) = true := by rw [h45]; rfl
      have hh2 : s.data.toList.head? = some 45 := by rw [hh, h45]
      by_cases h48 : s.data.toList.tail = [48]
      · have e48 : ((s.extract 1 s.size).toList == [48]) = true := by rw [ByteArray.toList_eq, ba_tail, h48]; rfl
        rw [coreT_neg0 hh2 h48]
        clear hh hh2 h45 h48
        go_enter Tryz.func53, Tryz.ntmps53
        go_wp2_with fail
        go_ret
        exact ⟨rfl, rfl⟩
      · have e48 : ((s.extract 1 s.size).toList == [48]) = false := by rw [ByteArray.toList_eq, ba_tail]; simpa using h48
        rw [coreT_neg hh2 h48]
        obtain ⟨bb, hbb⟩ : ∃ bb, bb = coreT s.data.toList.tail := ⟨_, rfl⟩
        rw [← hbb]
        rw [← ba_tail] at hbb
        have HBB := Lib.hid hbb
        have HBL := Lib.hid (ba_list (s.extract 1 s.size))
        have hds : ((s.extract 1 s.size).size : Int) ≤ 9223372036854775807 := by simp [ByteArray.size_extract]; omega
        clear hbb hh hh2 h45 h48
        go_enter Tryz.func53, Tryz.ntmps53
        go_wp2_with fail
        generalize s.extract 1 s.size = d at *
        have HZ := Lib.hid HBL.out.1
        have HG := Lib.hid HBL.out.2
        clear HBL e48 e45
        go_loopw [3] (fun i wr => ∃ k : Nat, k ≤ d.size ∧ i = .int .i64 k ∧ wr = w ∧ ∀ j (h : j < d.data.toList.length), j < k → IsDig (d.data.toList[j]'h)) (fun i _ => d.size - (intOf i).toNat)
        case atStart => exact ⟨0, by omega, rfl, rfl, fun j _ h => by omega⟩
        case round =>
          obtain ⟨k, hk, rfl, rfl, hdig⟩ := hrel
          have HDG := Lib.hid hdig
          clear hdig
          by_cases hlt : k < d.size
          · have hlt' : (k : Int) < d.size := by omega
            obtain ⟨h2, h3⟩ := HG.out k hlt
            by_cases hdx : IsDig d[k]
            · have b1 : (48 : Int) ≤ (d[k]).toNat := by have := hdx.1; omega
              have b2 : ((d[k]).toNat : Int) ≤ 57 := by have := hdx.2; omega
              have HN : Hid (∀ j (h : j < d.data.toList.length), j < k + 1 → IsDig (d.data.toList[j]'h)) := fun j h hj => by
                rcases Nat.lt_or_ge j k with h4 | h4
                · exact HDG.out j h h4
                · have : j = k := by omega
                  subst this
                  rw [← h3]; exact hdx
              clear hdx h3
              go_wp2_with fail
              exact ⟨⟨k + 1, by omega, by go_num, trivial, HN.out⟩, by simp [intOf]; omega⟩
            · have HF := Lib.hid (HBB.out.trans (ten_nodig h2 (by rw [← h3]; exact hdx)))
              have hor : ((d[k]).toNat : Int) < 48 ∨ (57 : Int) < (d[k]).toNat := by unfold IsDig at hdx; omega
              rcases hor with hor | hor
              · clear hdx h3
                go_wp2_with fail
                go_ret
                exact ⟨congrArg (fun b => Ending.returned (Value.bool b)) HF.out.symm, rfl⟩
              · have b3 : ¬ ((d[k]).toNat : Int) < 48 := by omega
                clear hdx h3
                go_wp2_with fail
                go_ret
                exact ⟨congrArg (fun b => Ending.returned (Value.bool b)) HF.out.symm, rfl⟩
          · obtain rfl : k = d.size := by omega
            have hall : d.data.toList.all isDigB = true := (all_isDigB _).2 fun c hc => by
              obtain ⟨j, hj, rfl⟩ := List.mem_iff_getElem.1 hc
              exact HDG.out j hj (by rw [← HZ.out]; exact hj)
            have hbb := HBB.out
            unfold coreT at hbb
            rw [hall, HZ.out, Bool.true_and] at hbb
            clear hlt
            rcases Nat.eq_zero_or_pos d.size with c0 | c0
            · have hnil : d.data.toList = [] := List.length_eq_zero_iff.1 (by rw [HZ.out]; exact c0)
              have HF : Hid (bb = false) := by show _ = _; rw [hbb, hnil]; rfl
              have c0' : (d.size : Int) = 0 := by omega
              have hdz : decide ((0 : Int) < d.size) = false := by rw [c0']; rfl
              clear hbb hnil hall
              go_wp2_with fail
              go_ret
              exact ⟨congrArg (fun b => Ending.returned (Value.bool b)) HF.out.symm, rfl⟩
            · have c0' : (0 : Int) < d.size := by omega
              have hne : d.data.toList.isEmpty = false := by
                rw [Bool.eq_false_iff]; intro h; have := List.isEmpty_iff.1 h; have h4 := HZ.out; rw [this] at h4; simp at h4; omega
              rw [hne, Bool.not_false, Bool.true_and] at hbb
              by_cases c1 : 200 < d.size
              · have HF : Hid (bb = false) := by show _ = _; rw [hbb, show decide (d.size ≤ 200) = false by simp; omega]; rfl
                have c1' : (200 : Int) < d.size := by omega
                clear hbb hne hall c1
                go_wp2_with fail
                go_ret
                exact ⟨congrArg (fun b => Ending.returned (Value.bool b)) HF.out.symm, rfl⟩
              · have c1' : (d.size : Int) ≤ 200 := by omega
                rw [show decide (d.size ≤ 200) = true by simp; omega, Bool.true_and] at hbb
                by_cases c2 : d.data.toList = [48]
                · have HF : Hid (bb = true) := by show _ = _; rw [hbb, c2]; rfl
                  have e2 : (d.toList == [48]) = true := by rw [ByteArray.toList_eq, c2]; rfl
                  clear hbb hne hall c1 c2
                  go_wp2_with fail
                  go_ret
                  exact ⟨congrArg (fun b => Ending.returned (Value.bool b)) HF.out.symm, rfl⟩
                · have e2 : (d.toList == [48]) = false := by rw [ByteArray.toList_eq]; simpa using c2
                  have e3 : (d.data.toList == [48]) = false := by simpa using c2
                  rw [e3, Bool.false_or, ba_head c0] at hbb
                  by_cases c3 : d[0] = 48
                  · have HF : Hid (bb = false) := by show _ = _; rw [hbb, c3]; rfl
                    have e4 : (((d[0]).toNat : Int) != 48) = false := by rw [c3]; rfl
                    clear hbb hne hall c1 c2 c3 e3
                    go_wp2_with fail
                    go_ret
                    exact ⟨congrArg (fun b => Ending.returned (Value.bool b)) HF.out.symm, rfl⟩
                  · have HF : Hid (bb = true) := by show _ = _; rw [hbb]; simpa using c3
                    have e4 : (((d[0]).toNat : Int) != 48) = true := by
                      rw [bne_iff_ne]
                      intro h
                      exact c3 (UInt8.toNat_inj.1 (by rw [show (48 : UInt8).toNat = 48 from rfl]; omega))
                    clear hbb hne hall c1 c2 c3 e3
                    go_wp2_with fail
                    go_ret
                    exact ⟨congrArg (fun b => Ending.returned (Value.bool b)) HF.out.symm, rfl⟩
    · have e45 : (((s[0]).toNat : Int) == 45) = false := by
        rw [beq_eq_false_iff_ne]
        intro h
        exact h45 (UInt8.toNat_inj.1 (by rw [show (45 : UInt8).toNat = 45 from rfl]; omega))
      have hh2 : s.data.toList.head? ≠ some 45 := by rw [hh]; simpa using h45
      rw [coreT_pos hh2]
      obtain ⟨bb, hbb⟩ : ∃ bb, bb = coreT s.data.toList := ⟨_, rfl⟩
      rw [← hbb]
      have HBB := Lib.hid hbb
      have HZ := Lib.hid (ba_list s).1
      have HG := Lib.hid (ba_list s).2
      clear hbb hh hh2 h45
      go_enter Tryz.func53, Tryz.ntmps53
      go_wp2_with fail
      clear e45
      generalize s = d at *
      go_loopw [3] (fun i wr => ∃ k : Nat, k ≤ d.size ∧ i = .int .i64 k ∧ wr = w ∧ ∀ j (h : j < d.data.toList.length), j < k → IsDig (d.data.toList[j]'h)) (fun i _ => d.size - (intOf i).toNat)
      case atStart => exact ⟨0, by omega, rfl, rfl, fun j _ h => by omega⟩
      case round =>
        obtain ⟨k, hk, rfl, rfl, hdig⟩ := hrel
        have HDG := Lib.hid hdig
        clear hdig
        by_cases hlt : k < d.size
        · have hlt' : (k : Int) < d.size := by omega
          obtain ⟨h2, h3⟩ := HG.out k hlt
          by_cases hdx : IsDig d[k]
          · have b1 : (48 : Int) ≤ (d[k]).toNat := by have := hdx.1; omega
            have b2 : ((d[k]).toNat : Int) ≤ 57 := by have := hdx.2; omega
            have HN : Hid (∀ j (h : j < d.data.toList.length), j < k + 1 → IsDig (d.data.toList[j]'h)) := fun j h hj => by
              rcases Nat.lt_or_ge j k with h4 | h4
              · exact HDG.out j h h4
              · have : j = k := by omega
                subst this
                rw [← h3]; exact hdx
            clear hdx h3
            go_wp2_with fail
            exact ⟨⟨k + 1, by omega, by go_num, trivial, HN.out⟩, by simp [intOf]; omega⟩
          · have HF := Lib.hid (HBB.out.trans (ten_nodig h2 (by rw [← h3]; exact hdx)))
            have hor : ((d[k]).toNat : Int) < 48 ∨ (57 : Int) < (d[k]).toNat := by unfold IsDig at hdx; omega
            rcases hor with hor | hor
            · clear hdx h3
              go_wp2_with fail
              go_ret
              exact ⟨congrArg (fun b => Ending.returned (Value.bool b)) HF.out.symm, rfl⟩
            · have b3 : ¬ ((d[k]).toNat : Int) < 48 := by omega
              clear hdx h3
              go_wp2_with fail
              go_ret
              exact ⟨congrArg (fun b => Ending.returned (Value.bool b)) HF.out.symm, rfl⟩
        · obtain rfl : k = d.size := by omega
          have hall : d.data.toList.all isDigB = true := (all_isDigB _).2 fun c hc => by
            obtain ⟨j, hj, rfl⟩ := List.mem_iff_getElem.1 hc
            exact HDG.out j hj (by rw [← HZ.out]; exact hj)
          have hbb := HBB.out
          unfold coreT at hbb
          rw [hall, HZ.out, Bool.true_and] at hbb
          clear hlt
          rcases Nat.eq_zero_or_pos d.size with c0 | c0
          · have hnil : d.data.toList = [] := List.length_eq_zero_iff.1 (by rw [HZ.out]; exact c0)
            have HF : Hid (bb = false) := by show _ = _; rw [hbb, hnil]; rfl
            have c0' : (d.size : Int) = 0 := by omega
            have hdz : decide ((0 : Int) < d.size) = false := by rw [c0']; rfl
            clear hbb hnil hall
            go_wp2_with fail
            go_ret
            exact ⟨congrArg (fun b => Ending.returned (Value.bool b)) HF.out.symm, rfl⟩
          · have c0' : (0 : Int) < d.size := by omega
            have hne : d.data.toList.isEmpty = false := by
              rw [Bool.eq_false_iff]; intro h; have := List.isEmpty_iff.1 h; have h4 := HZ.out; rw [this] at h4; simp at h4; omega
            rw [hne, Bool.not_false, Bool.true_and] at hbb
            by_cases c1 : 200 < d.size
            · have HF : Hid (bb = false) := by show _ = _; rw [hbb, show decide (d.size ≤ 200) = false by simp; omega]; rfl
              have c1' : (200 : Int) < d.size := by omega
              clear hbb hne hall c1
              go_wp2_with fail
              go_ret
              exact ⟨congrArg (fun b => Ending.returned (Value.bool b)) HF.out.symm, rfl⟩
            · have c1' : (d.size : Int) ≤ 200 := by omega
              rw [show decide (d.size ≤ 200) = true by simp; omega, Bool.true_and] at hbb
              by_cases c2 : d.data.toList = [48]
              · have HF : Hid (bb = true) := by show _ = _; rw [hbb, c2]; rfl
                have e2 : (d.toList == [48]) = true := by rw [ByteArray.toList_eq, c2]; rfl
                clear hbb hne hall c1 c2
                go_wp2_with fail
                go_ret
                exact ⟨congrArg (fun b => Ending.returned (Value.bool b)) HF.out.symm, rfl⟩
              · have e2 : (d.toList == [48]) = false := by rw [ByteArray.toList_eq]; simpa using c2
                have e3 : (d.data.toList == [48]) = false := by simpa using c2
                rw [e3, Bool.false_or, ba_head c0] at hbb
                by_cases c3 : d[0] = 48
                · have HF : Hid (bb = false) := by show _ = _; rw [hbb, c3]; rfl
                  have e4 : (((d[0]).toNat : Int) != 48) = false := by rw [c3]; rfl
                  clear hbb hne hall c1 c2 c3 e3
                  go_wp2_with fail
                  go_ret
                  exact ⟨congrArg (fun b => Ending.returned (Value.bool b)) HF.out.symm, rfl⟩
                · have HF : Hid (bb = true) := by show _ = _; rw [hbb]; simpa using c3
                  have e4 : (((d[0]).toNat : Int) != 48) = true := by
                    rw [bne_iff_ne]
                    intro h
                    exact c3 (UInt8.toNat_inj.1 (by rw [show (48 : UInt8).toNat = 48 from rfl]; omega))
                  clear hbb hne hall c1 c2 c3 e3
                  go_wp2_with fail
                  go_ret
                  exact ⟨congrArg (fun b => Ending.returned (Value.bool b)) HF.out.symm, rfl⟩

theorem natT_digs {n : Nat} (h : n ≠ 0) : natT n = (digsL 10 n).reverse.map chr10 := by unfold natT; rw [if_neg h]
theorem digs_at {n : Nat} (h : n ≠ 0) (d : ByteArray) (hd : d.data.toList = natT n) : d.size = (digsL 10 n).length ∧ ∀ q (hq : q < d.size), ((d[q]).toNat : Int) = 48 + ((digsL 10 n).getD ((digsL 10 n).length - 1 - q) 0 : Nat) ∧ (digsL 10 n).getD ((digsL 10 n).length - 1 - q) 0 < 10 := by
  obtain ⟨h1, h2⟩ := ba_list d
  have hl : d.size = (digsL 10 n).length := by rw [← h1, hd, natT_digs h]; simp
  refine ⟨hl, fun q hq => ?_⟩
  obtain ⟨h3, h4⟩ := h2 q hq
  have h9 := dig_getD (by decide) (digsL_dig (B := 10) (by decide) n) ((digsL 10 n).length - 1 - q)
  refine ⟨?_, h9⟩
  have e : d.data.toList[q]'h3 = chr10 ((digsL 10 n).getD ((digsL 10 n).length - 1 - q) 0) := by
    have h5 : d.data.toList[q]? = some (chr10 ((digsL 10 n).getD ((digsL 10 n).length - 1 - q) 0)) := by
      rw [hd, natT_digs h, List.getElem?_map, List.getElem?_reverse (by omega), List.getD_eq_getElem?_getD, List.getElem?_eq_getElem (by omega)]
      rfl
    rw [List.getElem?_eq_getElem h3] at h5
    exact Option.some.inj h5
  rw [h4, e, chr10_toNat h9]; omega
theorem take_back (D : List Nat) {q : Nat} (h : q < D.length) : D.take (D.length - (q + 1)) ++ [D.getD (D.length - 1 - q) 0] = D.take (D.length - q) := by
  have e1 : D.length - q = D.length - (q + 1) + 1 := by omega
  have e2 : D.length - 1 - q = D.length - (q + 1) := by omega
  rw [e1, e2, List.take_succ_eq_append_getElem (by omega)]
  simp [List.getD_eq_getElem?_getD, show D.length - (q + 1) < D.length by omega]
set_option maxRecDepth 100000 in
set_option maxHeartbeats 4000000 in
theorem rdigits_any (z : Int) (hz : Fits z) (w : World) :
    Calls Tryz.prog 64 #[.string (intB z)] w fun e w' => (∃ u, e = .returned (.tuple #[.bool (decide (z < 0)), u]) ∧ NumsAt w' u (digsL 10 z.natAbs)) ∧ Below w.heap.size w w' := by
  obtain ⟨i0, hi0, hz0, hz1, hz2⟩ := info_parts info_int
  have HI0 := Lib.hid hi0
  have HZ0 := Lib.hid hz0
  have HZ1 := Lib.hid hz1
  have HZ2 := Lib.hid hz2
  have hlen : (digsL 10 z.natAbs).length ≤ 200 := (digsL_len (by decide) _ _).2 hz
  obtain ⟨n, hn⟩ : ∃ n, n = z.natAbs := ⟨_, rfl⟩
  rw [← hn] at hlen ⊢
  clear hi0 hz0 hz1 hz2
  by_cases h0 : n = 0
  · obtain rfl : z = 0 := by omega
    subst h0
    rw [digsL_zero, intB_zero]
    clear hlen hn hz
    have e48 : ((⟨#[48]⟩ : ByteArray).toList == [48]) = true := by decide +kernel
    go_enter Tryz.func64, Tryz.ntmps64
    go_wp2_with fail
    go_loopw [5, 6] (fun v i wr => v = .slice none 0 0 ∧ i = .int .i64 0 ∧ wr = w) (fun _ _ _ => 0)
    case atStart => exact ⟨rfl, rfl, rfl⟩
    case round =>
      obtain ⟨rfl, rfl, rfl⟩ := hrel
      go_wp2_with fail
      go_ret2
      exact ⟨⟨_, rfl, ⟨none, 0, rfl, Nat.le_refl _, by omega, .inl ⟨rfl, rfl⟩⟩⟩, Below.refl _ _⟩
  · have hne : natT n ≠ [48] := fun e => by
      have h1 := natT_val n
      rw [e] at h1
      exact h0 (by rw [← h1]; rfl)
    have hszz : (natT n).length ≤ 200 := by rw [natT_digs h0]; simpa using hlen
    by_cases hneg : z < 0
    · have hl : (intB z).data.toList = 45 :: natT n := by
        show (intT z).toArray.toList = _
        rw [List.toList_toArray]; unfold intT; rw [if_pos hneg, ← hn]
      have hdt : decide (z < 0) = true := by simpa using hneg
      rw [hdt]
      generalize intB z = s at *
      have hsz := (ba_list s).1
      rw [hl, List.length_cons] at hsz
      have z0 : 0 < s.size := by omega
      have z0' : (0 : Int) < s.size := by omega
      have hsb : (s.size : Int) ≤ 201 := by omega
      have hh := ba_head z0
      rw [hl, List.head?_cons] at hh
      have e45 : (((s[0]).toNat : Int) == 45) = true := by rw [← Option.some.inj hh]; rfl
      have hdl := ba_tail s
      rw [hl, List.tail_cons] at hdl
      have e48 : ((s.extract 1 s.size).toList == [48]) = false := by rw [ByteArray.toList_eq, hdl]; simpa using hne
      have e48' : ((s.extract 1 s.size).toList != [48]) = true := by rw [bne, e48]; rfl
      obtain ⟨hdn, hat⟩ := digs_at h0 (s.extract 1 s.size) hdl
      obtain ⟨N, hN⟩ : ∃ N, N = (digsL 10 n).length := ⟨_, rfl⟩
      have HAT := Lib.hid hat
      rw [← hN] at hdn hlen
      have HN := Lib.hid hN
      have hdb : ((s.extract 1 s.size).size : Int) ≤ 200 := by omega
      have hsum : (s.size : Int) - 1 = (s.extract 1 s.size).size := by simp [ByteArray.size_extract]; omega
      clear hl hsz hh hdl hat hN hdt hn hz hne hszz
      go_enter Tryz.func64, Tryz.ntmps64
      go_wp2_with fail
      generalize s.extract 1 s.size = d at *
      go_loopw [5, 6] (fun v i wr => ∃ q : Nat, q ≤ N ∧ i = .int .i64 ((q : Int) - 1) ∧ wr.ownsRow w.heap.size 3 1 v ((digsL 10 n).take (N - q)).length (i64l ((digsL 10 n).take (N - q))) ∧ Below w.heap.size w wr) (fun _ i _ => (1 + intOf i).toNat)
      case atStart => exact ⟨N, Nat.le_refl _, by go_num, by rw [Nat.sub_self]; exact World.ownsRow_nil _ _ _ _, Below.refl _ _⟩
      case round =>
        obtain ⟨k, hk, rfl, hown, hB⟩ := hrel
        have HO := Lib.hid hown
        have HB := Lib.hid hB
        clear hown hB
        rcases Nat.eq_zero_or_pos k with rfl | hk0
        · have hnums := NumsAt.of_owns HO.out
          rw [Nat.sub_zero, HN.out, List.take_length] at hnums
          have HNU := Lib.hid hnums
          clear hnums
          go_wp2_with fail
          go_ret2
          exact ⟨⟨_, rfl, HNU.out⟩, HB.out⟩
        · obtain ⟨q, rfl⟩ : ∃ q, k = q + 1 := ⟨k - 1, by omega⟩
          have hqe : ((q + 1 : Nat) : Int) - 1 = q := by omega
          have hqd : q < d.size := by omega
          have hqn : (q : Int) < d.size := by omega
          obtain ⟨hv, h9⟩ := HAT.out q hqd
          have htk := take_back (digsL 10 n) (q := q) (by have := HN.out; omega)
          rw [← HN.out] at hv h9 htk
          rw [hqe]
          have hxb : (((digsL 10 n).getD (N - 1 - q) 0 : Nat) : Int) ≤ 9 := by omega
          have HK : Hid (((digsL 10 n).take (N - (q + 1))).length ≤ 100000) := by show _ ≤ _; simp; omega
          generalize (digsL 10 n).getD (N - 1 - q) 0 = x at *
          generalize (digsL 10 n).take (N - (q + 1)) = y at *
          have hw : IntKind.u8.wrap (((d[q]).toNat : Int) - 48) = (x : Nat) := by rw [hv, IntKind.wrap_u8]; omega
          have HTK := Lib.hid htk
          clear hv h9 htk hqe
          go_wp2_with (at_builtin; refine wpList_append_own _ rfl _ _ 40 rfl w.heap.size 3 i0 (.int .i64 0) 1 8 Tryz.underlying40 HI0.out HZ0.out HZ1.out HZ2.out rfl (by decide) u5 y.length (i64l y) (by rfl) (HO.out.alloc _) ⟨wr.heap.size, 0, none⟩ 1 1 [.int .i64 (x : Nat)] (by rfl) rfl (news_val _ _ _) (one_int _ _) (app_b1 HK.out) (app_b2 HK.out (by decide)) (app_b3 HB.out) ?_; intro v2 w9 hown9 hgrow9 _)
          have HF := Lib.hid (app_i64 (b := x) HO.out HB.out hown9 hgrow9)
          rw [HTK.out] at HF
          clear hown9 hgrow9
          go_wp2_with fail
          go_roundw
          case rel => exact ⟨q, by omega, by go_num, HF.out.1, HF.out.2⟩
          case measure => simp [intOf]; omega
    · have hl : (intB z).data.toList = natT n := by
        show (intT z).toArray.toList = _
        rw [List.toList_toArray]; unfold intT; rw [if_neg hneg, ← hn]
      have hdt : decide (z < 0) = false := by simpa using hneg
      rw [hdt]
      generalize intB z = d at *
      obtain ⟨hdn, hat⟩ := digs_at h0 d hl
      obtain ⟨N, hN⟩ : ∃ N, N = (digsL 10 n).length := ⟨_, rfl⟩
      have HAT := Lib.hid hat
      rw [← hN] at hdn hlen
      have HN := Lib.hid hN
      have hdb : (d.size : Int) ≤ 200 := by omega
      have hsz := (ba_list d).1
      have z0 : 0 < d.size := by
        have h1 := natT_ne n
        rw [← hl] at h1
        have := List.length_pos_iff.2 h1
        omega
      have z0' : (0 : Int) < d.size := by omega
      have hx0 := (HAT.out 0 z0).1
      have e45 : (((d[0]).toNat : Int) == 45) = false := by rw [beq_eq_false_iff_ne]; omega
      have e48 : (d.toList == [48]) = false := by rw [ByteArray.toList_eq, hl]; simpa using hne
      have e48' : (d.toList != [48]) = true := by rw [bne, e48]; rfl
      clear hl hat hN hdt hn hz hne hszz hsz hx0
      go_enter Tryz.func64, Tryz.ntmps64
      go_wp2_with fail
      go_loopw [5, 6] (fun v i wr => ∃ q : Nat, q ≤ N ∧ i = .int .i64 ((q : Int) - 1) ∧ wr.ownsRow w.heap.size 3 1 v ((digsL 10 n).take (N - q)).length (i64l ((digsL 10 n).take (N - q))) ∧ Below w.heap.size w wr) (fun _ i _ => (1 + intOf i).toNat)
      case atStart => exact ⟨N, Nat.le_refl _, by go_num, by rw [Nat.sub_self]; exact World.ownsRow_nil _ _ _ _, Below.refl _ _⟩
      case round =>
        obtain ⟨k, hk, rfl, hown, hB⟩ := hrel
        have HO := Lib.hid hown
        have HB := Lib.hid hB
        clear hown hB
        rcases Nat.eq_zero_or_pos k with rfl | hk0
        · have hnums := NumsAt.of_owns HO.out
          rw [Nat.sub_zero, HN.out, List.take_length] at hnums
          have HNU := Lib.hid hnums
          clear hnums
          go_wp2_with fail
          go_ret2
          exact ⟨⟨_, rfl, HNU.out⟩, HB.out⟩
        · obtain ⟨q, rfl⟩ : ∃ q, k = q + 1 := ⟨k - 1, by omega⟩
          have hqe : ((q + 1 : Nat) : Int) - 1 = q := by omega
          have hqd : q < d.size := by omega
          have hqn : (q : Int) < d.size := by omega
          obtain ⟨hv, h9⟩ := HAT.out q hqd
          have htk := take_back (digsL 10 n) (q := q) (by have := HN.out; omega)
          rw [← HN.out] at hv h9 htk
          rw [hqe]
          have hxb : (((digsL 10 n).getD (N - 1 - q) 0 : Nat) : Int) ≤ 9 := by omega
          have HK : Hid (((digsL 10 n).take (N - (q + 1))).length ≤ 100000) := by show _ ≤ _; simp; omega
          generalize (digsL 10 n).getD (N - 1 - q) 0 = x at *
          generalize (digsL 10 n).take (N - (q + 1)) = y at *
          have hw : IntKind.u8.wrap (((d[q]).toNat : Int) - 48) = (x : Nat) := by rw [hv, IntKind.wrap_u8]; omega
          have HTK := Lib.hid htk
          clear hv h9 htk hqe
          go_wp2_with (at_builtin; refine wpList_append_own _ rfl _ _ 40 rfl w.heap.size 3 i0 (.int .i64 0) 1 8 Tryz.underlying40 HI0.out HZ0.out HZ1.out HZ2.out rfl (by decide) u5 y.length (i64l y) (by rfl) (HO.out.alloc _) ⟨wr.heap.size, 0, none⟩ 1 1 [.int .i64 (x : Nat)] (by rfl) rfl (news_val _ _ _) (one_int _ _) (app_b1 HK.out) (app_b2 HK.out (by decide)) (app_b3 HB.out) ?_; intro v2 w9 hown9 hgrow9 _)
          have HF := Lib.hid (app_i64 (b := x) HO.out HB.out hown9 hgrow9)
          rw [HTK.out] at HF
          clear hown9 hgrow9
          go_wp2_with fail
          go_roundw
          case rel => exact ⟨q, by omega, by go_num, HF.out.1, HF.out.2⟩
          case measure => simp [intOf]; omega
end Go.Proofs.YtelckldddflmmaaGreatDoor
