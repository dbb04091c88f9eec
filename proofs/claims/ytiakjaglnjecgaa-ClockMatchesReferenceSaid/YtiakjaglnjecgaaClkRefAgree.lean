/- The reference's Agree. -/
import Derived.BigQuiet
import Derived.Test.YtiakjaglnjecgaaClkRefAgreeP
import Derived.Test.YtiakjaglnjecgaaClkStep
import Derived.Test.YtiakjaglnjecgaaClkAgree
namespace Go.Proofs.Ytiakjaglnjecgaa
open Go.RowKit Putlog

theorem endsL_mem {l : List Sp} {p : Sp} (h : p ∈ l) : p.1 ∈ endsL l ∧ p.2 ∈ endsL l :=
  ⟨List.mem_flatMap.2 ⟨p, h, by simp⟩, List.mem_flatMap.2 ⟨p, h, by simp⟩⟩
theorem nxt_on {l : List Sp} {to nx : Int} (h : Nxt (endsL l) to nx) (hc : cnt to l ≠ 0) : to < nx ∧ nx ∈ endsL l ∧ ∀ s, to ≤ s → s < nx → cnt s l = cnt to l := by
  rcases h with ⟨_, r⟩ | ⟨q, r, t⟩
  · obtain ⟨p, hp, hi⟩ := cnt_pos hc
    have h1 := r _ (endsL_mem hp).2
    have h2 : p.1 ≤ to ∧ to < p.2 := by simpa [inSp] using hi
    omega
  · refine ⟨q, r, fun s h1 h2 => (cnt_flat h1 fun x hx hk => ?_).symm⟩
    obtain ⟨p, hp, _, hx⟩ := hx
    rcases hx with rfl | rfl
    · have := t _ (endsL_mem hp).1 hk.1; omega
    · have := t _ (endsL_mem hp).2 hk.1; omega
def beyond (l : List Sp) (to : Int) : Nat := (endsL l).countP fun e => decide (to < e)
theorem beyond_less {l : List Sp} {to nx : Int} (h : to < nx) (hm : nx ∈ endsL l) : beyond l nx < beyond l to :=
  count_less (fun x _ hx => by simp at hx ⊢; omega) ⟨nx, hm, by simpa using h, by simp⟩
theorem ends_i64 {l : List Sp} (h : SpsOk l) {e : Int} (he : e ∈ endsL l) : I64 e := by
  obtain ⟨p, hp, hx⟩ := List.mem_flatMap.1 he
  have := h p hp
  rcases (by simpa using hx : e = p.1 ∨ e = p.2) with rfl | rfl
  · exact this.1
  · exact this.2
set_option maxRecDepth 100000 in
set_option maxHeartbeats 4000000 in
theorem ragree_any (l : List Sp) (hl : l.length ≤ 1000) (v : Value) (w : World) (h : SpsAt w v l) :
    Calls Try.prog 8 #[v] w fun e w' => ∃ a b k, e = .returned (.tuple #[.agg #[.int .i64 a, .int .i64 b], .int .i64 k]) ∧ Agreed l a b k ∧ Below w.heap.size w w' := by
  have HIN := Lib.hid (fun s w' (hB : Below w.heap.size w w') => inside_any l hl s v w' (h.via hB))
  obtain ⟨⟨a, c, rfl, hc, hcb, hin⟩, hok⟩ := h
  have HI := Lib.hid (hin.via (alloc_below w (.cells #[.int .i64 0, .int .i64 0] 32)))
  have HK := Lib.hid hok
  have HX := Lib.hid (heap_alloc_new w (.cells #[.int .i64 0, .int .i64 0] 32))
  have HW := Lib.hid (alloc_below w (.cells #[.int .i64 0, .int .i64 0] 32))
  obtain ⟨n, hn⟩ : ∃ n, n = l.length := ⟨_, rfl⟩
  rw [← hn] at hc hl HIN ⊢
  have HN := Lib.hid hn
  have hnb : (n : Int) ≤ 1000 := by omega
  clear hin hok hn
  go_enter Try.func8, Try.ntmps8
  go_wp2_with fail
  generalize w.alloc (.cells #[.int .i64 0, .int .i64 0] 32) = W1 at *
  go_loop [4, 5, 6] (fun m f i => ∃ (k : Nat) (m' f' : Int), k ≤ n ∧ i = .int .i64 k ∧ m = .int .i64 m' ∧ f = .int .i64 f' ∧ Cand l k m' f' ∧ I64 f') (fun _ _ i => n - (intOf i).toNat)
  case atStart => exact ⟨0, 0, 0, Nat.zero_le _, rfl, rfl, rfl, Cand.start l, ⟨by decide, by decide⟩⟩
  case round =>
    obtain ⟨k, m, f, hk, rfl, rfl, rfl, hC, hf⟩ := hrel
    have HC := Lib.hid hC
    have m0 := hC.m0
    have m1 : m ≤ 1000 := by have := hC.m1; have := HN.out; omega
    clear hC
    by_cases hlt : k < n
    · have hlt' : (k : Int) < n := by omega
      have hkl : k < l.length := by have := HN.out; omega
      obtain ⟨g, o, rfl, c0, c1⟩ := HI.out.get hkl
      have HY : Hid (∀ m f x n', Cand l k m f → (l.getD k default).1 = x → cnt x l = n' → (m < n' ∨ (n' = m ∧ x < f)) → Cand l (k + 1) n' x) := fun m f x n' a b c d => a.yes b c d
      have HZ : Hid (∀ m f x n', Cand l k m f → (l.getD k default).1 = x → cnt x l = n' → ¬ (m < n' ∨ (n' = m ∧ x < f)) → Cand l (k + 1) m f) := fun m f x n' a b c d => a.no b c d
      obtain ⟨i0, i1⟩ := HK.out _ (sps_mem hkl)
      clear hkl
      obtain ⟨x, hx⟩ : ∃ x, (l.getD k default).1 = x := ⟨_, rfl⟩
      rw [hx] at c0 i0
      have HE := Lib.hid hx
      clear hx c1 i1
      go_wp2_with fail
      refine (HIN.out x _ HW.out).mono ?_
      rintro e w2 ⟨rfl, rfl⟩
      have hb := cnt_bounds x l
      have hb0 := hb.1
      have hb1 : cnt x l ≤ 1000 := by have := HN.out; omega
      obtain ⟨q, hq⟩ : ∃ q, cnt x l = q := ⟨_, rfl⟩
      rw [hq] at hb0 hb1 ⊢
      have HQ := Lib.hid hq
      clear hb hq
      rcases (show m < q ∨ (q = m ∧ x < f) ∨ (q = m ∧ f ≤ x) ∨ q < m by omega) with e | ⟨e, e2⟩ | ⟨e, e2⟩ | e
      · go_wp2_with fail
        go_round
        case rel => exact ⟨k + 1, q, x, by omega, by go_num, rfl, rfl, HY.out _ _ _ _ HC.out HE.out HQ.out (.inl e), i0⟩
        case measure => simp [intOf]; omega
      · subst e
        go_wp2_with fail
        go_round
        case rel => exact ⟨k + 1, q, x, by omega, by go_num, rfl, rfl, HY.out _ _ _ _ HC.out HE.out HQ.out (.inr ⟨rfl, e2⟩), i0⟩
        case measure => simp [intOf]; omega
      · subst e
        go_wp2_with fail
        go_round
        case rel => exact ⟨k + 1, q, f, by omega, by go_num, rfl, rfl, HZ.out _ _ _ _ HC.out HE.out HQ.out (by omega), hf⟩
        case measure => simp [intOf]; omega
      · have ne : (q == m) = false := by rw [beq_eq_false_iff_ne]; omega
        have ne2 : decide (m < q) = false := decide_eq_false (by omega)
        go_wp2_with fail
        go_round
        case rel => exact ⟨k + 1, m, f, by omega, by go_num, rfl, rfl, HZ.out _ _ _ _ HC.out HE.out HQ.out (by omega), hf⟩
        case measure => simp [intOf]; omega
    · obtain rfl : k = n := by omega
      rw [HN.out] at HC
      by_cases hm0 : m = 0
      · subst hm0
        have HA := Lib.hid HC.out.none
        have r0 := (cell_of_row _ _ 0 _ _ _ HX.out).trans (by rfl : _ = some (.int .i64 0))
        have r1 := (cell_of_row _ _ 1 _ _ _ HX.out).trans (by rfl : _ = some (.int .i64 0))
        have f0 := frozen_of_row _ _ 0 _ _ HX.out
        have f1 := frozen_of_row _ _ 1 _ _ HX.out
        go_wp2_with fail
        refine bodyPost_ret (results_se rfl _ _ w.heap.size _ _ rfl (pair_set HX.out _ _)) rfl ⟨0, 0, 0, rfl, HA.out, ?_⟩
        exact (HW.out.setCell (Nat.le_refl _) _).setCell (Nat.le_refl _) _
      · have hmb : (m == 0) = false := by rw [beq_eq_false_iff_ne]; exact hm0
        have HM0 := Lib.hid hm0
        clear hm0
        have HAT := Lib.hid (HC.out.at_ HM0.out)
        go_wp2_with fail
        go_loop [8] (fun t => ∃ to : Int, t = .int .i64 to ∧ f ≤ to ∧ (∀ s, f ≤ s → s < to → cnt s l = m) ∧ I64 to) (fun t => beyond l (intOf t))
        case atStart => exact ⟨f, rfl, Int.le_refl _, fun s h1 h2 => by omega, hf⟩
        case round =>
          obtain ⟨to, rfl, hto, hrun, hti⟩ := hrel
          have HRUN := Lib.hid hrun
          clear hrun
          go_wp2_with fail
          refine (HIN.out to _ HW.out).mono ?_
          rintro e w2 ⟨rfl, rfl⟩
          have hct := HC.out.most to
          obtain ⟨q, hq⟩ : ∃ q, cnt to l = q := ⟨_, rfl⟩
          have hq0 := (cnt_bounds to l).1
          rw [hq] at hct hq0 ⊢
          have HQ := Lib.hid hq
          clear hq
          by_cases hqm : q = m
          · subst hqm
            go_wp2_with fail
            go_loop [9, 10] (fun nv jv => ∃ (k' : Nat) (nx : Int), k' ≤ k ∧ jv = .int .i64 k' ∧ nv = .int .i64 nx ∧ Nxt (endsL (l.take k')) to nx ∧ I64 nx) (fun _ jv => k - (intOf jv).toNat)
            case atStart => exact ⟨0, to, Nat.zero_le _, rfl, rfl, Nxt.start to, hti⟩
            case round =>
              obtain ⟨j, nx, hj, rfl, rfl, hN, hni⟩ := hrel
              have HNX := Lib.hid hN
              clear hN
              by_cases hlt2 : j < k
              · have hlt3 : (j : Int) < k := by omega
                have hjl : j < l.length := by have := HN.out; omega
                obtain ⟨g, o, rfl, c0, c1⟩ := HI.out.get hjl
                obtain ⟨i0, i1⟩ := HK.out _ (sps_mem hjl)
                have HE := Lib.hid (endsL_take hjl)
                clear hjl
                generalize l.getD j default = r at *
                obtain ⟨x, y⟩ := r
                dsimp only at c0 c1 i0 i1
                have HA : Hid (endsL (l.take j) ++ [x, y] = (endsL (l.take j) ++ [x]) ++ [y]) := by show _ = _; simp
                rcases (show (x ≤ to) ∨ (to < x ∧ nx = to) ∨ (to < x ∧ nx ≠ to ∧ x < nx) ∨ (to < x ∧ nx ≠ to ∧ nx ≤ x) by omega) with hx | hx | hx | hx
                · have _ := hx
                  have pax : x ≤ to := by omega
                  rcases (show (y ≤ to) ∨ (to < y ∧ nx = to) ∨ (to < y ∧ nx ≠ to ∧ y < nx) ∨ (to < y ∧ nx ≠ to ∧ nx ≤ y) by omega) with hy | hy | hy | hy
                  · have _ := hy
                    have pay : y ≤ to := by omega
                    have HN1 : Hid (Nxt (endsL (l.take j) ++ [x]) to (nx)) := (HNX.out.no (by omega))
                    have HN2 : Hid (Nxt (endsL (l.take (j + 1))) to (nx)) := by
                      show Nxt _ _ _; rw [HE.out, HA.out]
                      exact HN1.out.no (by omega)
                    clear hx hy
                    go_wp2_with fail
                    go_round
                    case rel => exact ⟨j + 1, nx, by omega, by go_num, rfl, HN2.out, hni⟩
                    case measure => simp [intOf]; omega
                  · have _ := hy
                    have pay : to < y := by omega
                    have pby : (nx == to) = true := by rw [beq_iff_eq]; omega
                    have HN1 : Hid (Nxt (endsL (l.take j) ++ [x]) to (nx)) := (HNX.out.no (by omega))
                    have HN2 : Hid (Nxt (endsL (l.take (j + 1))) to (y)) := by
                      show Nxt _ _ _; rw [HE.out, HA.out]
                      exact HN1.out.yes (by omega) (by omega)
                    clear hx hy
                    go_wp2_with fail
                    go_round
                    case rel => exact ⟨j + 1, y, by omega, by go_num, rfl, HN2.out, i1⟩
                    case measure => simp [intOf]; omega
                  · have _ := hy
                    have pay : to < y := by omega
                    have pby : (nx == to) = false := by rw [beq_eq_false_iff_ne]; omega
                    have pdy : y < nx := by omega
                    have HN1 : Hid (Nxt (endsL (l.take j) ++ [x]) to (nx)) := (HNX.out.no (by omega))
                    have HN2 : Hid (Nxt (endsL (l.take (j + 1))) to (y)) := by
                      show Nxt _ _ _; rw [HE.out, HA.out]
                      exact HN1.out.yes (by omega) (by omega)
                    clear hx hy
                    go_wp2_with fail
                    go_round
                    case rel => exact ⟨j + 1, y, by omega, by go_num, rfl, HN2.out, i1⟩
                    case measure => simp [intOf]; omega
                  · have _ := hy
                    have pay : to < y := by omega
                    have pby : (nx == to) = false := by rw [beq_eq_false_iff_ne]; omega
                    have pdy : nx ≤ y := by omega
                    have HN1 : Hid (Nxt (endsL (l.take j) ++ [x]) to (nx)) := (HNX.out.no (by omega))
                    have HN2 : Hid (Nxt (endsL (l.take (j + 1))) to (nx)) := by
                      show Nxt _ _ _; rw [HE.out, HA.out]
                      exact HN1.out.no (by omega)
                    clear hx hy
                    go_wp2_with fail
                    go_round
                    case rel => exact ⟨j + 1, nx, by omega, by go_num, rfl, HN2.out, hni⟩
                    case measure => simp [intOf]; omega
                · have _ := hx
                  have pax : to < x := by omega
                  have pbx : (nx == to) = true := by rw [beq_iff_eq]; omega
                  rcases (show (y ≤ to) ∨ (to < y ∧ x ≠ to ∧ y < x) ∨ (to < y ∧ x ≠ to ∧ x ≤ y) by omega) with hy | hy | hy
                  · have _ := hy
                    have pay : y ≤ to := by omega
                    have HN1 : Hid (Nxt (endsL (l.take j) ++ [x]) to (x)) := (HNX.out.yes (by omega) (by omega))
                    have HN2 : Hid (Nxt (endsL (l.take (j + 1))) to (x)) := by
                      show Nxt _ _ _; rw [HE.out, HA.out]
                      exact HN1.out.no (by omega)
                    clear hx hy
                    go_wp2_with fail
                    go_round
                    case rel => exact ⟨j + 1, x, by omega, by go_num, rfl, HN2.out, i0⟩
                    case measure => simp [intOf]; omega
                  · have _ := hy
                    have pay : to < y := by omega
                    have pby : (x == to) = false := by rw [beq_eq_false_iff_ne]; omega
                    have pdy : y < x := by omega
                    have HN1 : Hid (Nxt (endsL (l.take j) ++ [x]) to (x)) := (HNX.out.yes (by omega) (by omega))
                    have HN2 : Hid (Nxt (endsL (l.take (j + 1))) to (y)) := by
                      show Nxt _ _ _; rw [HE.out, HA.out]
                      exact HN1.out.yes (by omega) (by omega)
                    clear hx hy
                    go_wp2_with fail
                    go_round
                    case rel => exact ⟨j + 1, y, by omega, by go_num, rfl, HN2.out, i1⟩
                    case measure => simp [intOf]; omega
                  · have _ := hy
                    have pay : to < y := by omega
                    have pby : (x == to) = false := by rw [beq_eq_false_iff_ne]; omega
                    have pdy : x ≤ y := by omega
                    have HN1 : Hid (Nxt (endsL (l.take j) ++ [x]) to (x)) := (HNX.out.yes (by omega) (by omega))
                    have HN2 : Hid (Nxt (endsL (l.take (j + 1))) to (x)) := by
                      show Nxt _ _ _; rw [HE.out, HA.out]
                      exact HN1.out.no (by omega)
                    clear hx hy
                    go_wp2_with fail
                    go_round
                    case rel => exact ⟨j + 1, x, by omega, by go_num, rfl, HN2.out, i0⟩
                    case measure => simp [intOf]; omega
                · have _ := hx
                  have pax : to < x := by omega
                  have pbx : (nx == to) = false := by rw [beq_eq_false_iff_ne]; omega
                  have pdx : x < nx := by omega
                  rcases (show (y ≤ to) ∨ (to < y ∧ x ≠ to ∧ y < x) ∨ (to < y ∧ x ≠ to ∧ x ≤ y) by omega) with hy | hy | hy
                  · have _ := hy
                    have pay : y ≤ to := by omega
                    have HN1 : Hid (Nxt (endsL (l.take j) ++ [x]) to (x)) := (HNX.out.yes (by omega) (by omega))
                    have HN2 : Hid (Nxt (endsL (l.take (j + 1))) to (x)) := by
                      show Nxt _ _ _; rw [HE.out, HA.out]
                      exact HN1.out.no (by omega)
                    clear hx hy
                    go_wp2_with fail
                    go_round
                    case rel => exact ⟨j + 1, x, by omega, by go_num, rfl, HN2.out, i0⟩
                    case measure => simp [intOf]; omega
                  · have _ := hy
                    have pay : to < y := by omega
                    have pby : (x == to) = false := by rw [beq_eq_false_iff_ne]; omega
                    have pdy : y < x := by omega
                    have HN1 : Hid (Nxt (endsL (l.take j) ++ [x]) to (x)) := (HNX.out.yes (by omega) (by omega))
                    have HN2 : Hid (Nxt (endsL (l.take (j + 1))) to (y)) := by
                      show Nxt _ _ _; rw [HE.out, HA.out]
                      exact HN1.out.yes (by omega) (by omega)
                    clear hx hy
                    go_wp2_with fail
                    go_round
                    case rel => exact ⟨j + 1, y, by omega, by go_num, rfl, HN2.out, i1⟩
                    case measure => simp [intOf]; omega
                  · have _ := hy
                    have pay : to < y := by omega
                    have pby : (x == to) = false := by rw [beq_eq_false_iff_ne]; omega
                    have pdy : x ≤ y := by omega
                    have HN1 : Hid (Nxt (endsL (l.take j) ++ [x]) to (x)) := (HNX.out.yes (by omega) (by omega))
                    have HN2 : Hid (Nxt (endsL (l.take (j + 1))) to (x)) := by
                      show Nxt _ _ _; rw [HE.out, HA.out]
                      exact HN1.out.no (by omega)
                    clear hx hy
                    go_wp2_with fail
                    go_round
                    case rel => exact ⟨j + 1, x, by omega, by go_num, rfl, HN2.out, i0⟩
                    case measure => simp [intOf]; omega
                · have _ := hx
                  have pax : to < x := by omega
                  have pbx : (nx == to) = false := by rw [beq_eq_false_iff_ne]; omega
                  have pdx : nx ≤ x := by omega
                  rcases (show (y ≤ to) ∨ (to < y ∧ nx ≠ to ∧ y < nx) ∨ (to < y ∧ nx ≠ to ∧ nx ≤ y) by omega) with hy | hy | hy
                  · have _ := hy
                    have pay : y ≤ to := by omega
                    have HN1 : Hid (Nxt (endsL (l.take j) ++ [x]) to (nx)) := (HNX.out.no (by omega))
                    have HN2 : Hid (Nxt (endsL (l.take (j + 1))) to (nx)) := by
                      show Nxt _ _ _; rw [HE.out, HA.out]
                      exact HN1.out.no (by omega)
                    clear hx hy
                    go_wp2_with fail
                    go_round
                    case rel => exact ⟨j + 1, nx, by omega, by go_num, rfl, HN2.out, hni⟩
                    case measure => simp [intOf]; omega
                  · have _ := hy
                    have pay : to < y := by omega
                    have pby : (nx == to) = false := by rw [beq_eq_false_iff_ne]; omega
                    have pdy : y < nx := by omega
                    have HN1 : Hid (Nxt (endsL (l.take j) ++ [x]) to (nx)) := (HNX.out.no (by omega))
                    have HN2 : Hid (Nxt (endsL (l.take (j + 1))) to (y)) := by
                      show Nxt _ _ _; rw [HE.out, HA.out]
                      exact HN1.out.yes (by omega) (by omega)
                    clear hx hy
                    go_wp2_with fail
                    go_round
                    case rel => exact ⟨j + 1, y, by omega, by go_num, rfl, HN2.out, i1⟩
                    case measure => simp [intOf]; omega
                  · have _ := hy
                    have pay : to < y := by omega
                    have pby : (nx == to) = false := by rw [beq_eq_false_iff_ne]; omega
                    have pdy : nx ≤ y := by omega
                    have HN1 : Hid (Nxt (endsL (l.take j) ++ [x]) to (nx)) := (HNX.out.no (by omega))
                    have HN2 : Hid (Nxt (endsL (l.take (j + 1))) to (nx)) := by
                      show Nxt _ _ _; rw [HE.out, HA.out]
                      exact HN1.out.no (by omega)
                    clear hx hy
                    go_wp2_with fail
                    go_round
                    case rel => exact ⟨j + 1, nx, by omega, by go_num, rfl, HN2.out, hni⟩
                    case measure => simp [intOf]; omega
              · obtain rfl : j = k := by omega
                have hN := HNX.out
                rw [List.take_of_length_le (by have := HN.out; omega)] at hN
                obtain ⟨n1, n2, n3⟩ := nxt_on hN (by rw [HQ.out]; exact HM0.out)
                have HB1 := Lib.hid (beyond_less n1 n2)
                have HB2 := Lib.hid (ends_i64 HK.out n2)
                have HB3 : Hid (∀ s, f ≤ s → s < nx → cnt s l = q) := fun s h1 h2 => by
                  rcases Int.lt_or_le s to with u | u
                  · exact HRUN.out s h1 u
                  · rw [n3 s u h2]; exact HQ.out
                have hfn : f ≤ nx := by omega
                clear hN n1 n2 n3 hni
                go_wp2_with fail
                go_round
                case rel => exact ⟨nx, rfl, hfn, HB3.out, HB2.out⟩
                case measure => exact HB1.out
          · have hqb : (q == m) = false := by rw [beq_eq_false_iff_ne]; exact hqm
            have hlt2 : f < to := by
              rcases Int.lt_or_eq_of_le hto with u | u
              · exact u
              · rw [← u, HAT.out] at HQ; exact absurd HQ.out.symm hqm
            have HA : Hid (Agreed l f to m) := ⟨m0, HC.out.most, fun e => absurd e HM0.out, fun _ => hlt2, fun _ s hs => HC.out.first HM0.out hs, fun _ => HRUN.out, fun _ => by rw [HQ.out]; omega⟩
            clear hqm hct
            have r0 := (cell_of_row _ _ 0 _ _ _ HX.out).trans (by rfl : _ = some (.int .i64 0))
            have r1 := (cell_of_row _ _ 1 _ _ _ HX.out).trans (by rfl : _ = some (.int .i64 0))
            have f0 := frozen_of_row _ _ 0 _ _ HX.out
            have f1 := frozen_of_row _ _ 1 _ _ HX.out
            go_wp2_with fail
            refine bodyPost_ret (results_se rfl _ _ w.heap.size _ _ rfl (pair_set HX.out _ _)) rfl ⟨f, to, m, rfl, HA.out, ?_⟩
            exact (HW.out.setCell (Nat.le_refl _) _).setCell (Nat.le_refl _) _
end Go.Proofs.Ytiakjaglnjecgaa
