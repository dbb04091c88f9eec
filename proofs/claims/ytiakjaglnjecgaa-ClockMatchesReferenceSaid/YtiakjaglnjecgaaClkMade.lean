/- The contract of Made. -/
import Derived.Deep.DeepCutAuto
import Derived.Test.YtiakjaglnjecgaaClkRows
import Derived.Test.YtiakjaglnjecgaaClkCourseW
namespace Go.Proofs.Ytiakjaglnjecgaa
open Go.RowKit Putlog

/-- What Made has made under way: the readings at the true second T and the index i. -/
structure MadeW (d s : Int) (rates : List Int) (A : List Rd) (T i : Nat) (l : List Rd) : Prop where
  few : l.length ≤ (A.take 12).countP (metB T) + ((A.take 12).take i).countP (metE T)
  ok : okR (-1) l = true
  reads : ∀ r ∈ l, ReadOf d s rates r
theorem MadeW.start (d s : Int) (rates : List Int) (A : List Rd) : MadeW d s rates A 0 0 [] := ⟨Nat.zero_le _, rfl, fun r hr => by simp at hr⟩
theorem MadeW.outer {d s : Int} {rates : List Int} {A l : List Rd} {T i : Nat} (h : MadeW d s rates A T i l) (hi : A.length ≤ i ∨ 12 ≤ i) : MadeW d s rates A (T + 1) 0 l := by
  refine ⟨?_, h.ok, h.reads⟩
  have h1 := h.few
  have e : (A.take 12).take i = A.take 12 := List.take_of_length_le (by rw [List.length_take]; omega)
  rw [e] at h1
  have h2 := met_next T (A.take 12)
  have e2 : ((T + 1 : Nat) : Int) = (T : Int) + 1 := by omega
  show _ ≤ (A.take 12).countP (metB ((T + 1 : Nat) : Int)) + _
  rw [e2, h2]; omega
theorem MadeW.skip {d s : Int} {rates : List Int} {A l : List Rd} {T i : Nat} (h : MadeW d s rates A T i l) (hi : i < A.length) (h12 : i < 12) : MadeW d s rates A T (i + 1) l := by
  refine ⟨?_, h.ok, h.reads⟩
  have h1 := h.few
  rw [met_take (by rw [List.length_take]; omega)]
  omega
theorem MadeW.add {d s : Int} {rates : List Int} {A l : List Rd} {T i : Nat} {r : Rd} (h : MadeW d s rates A T i l) (hi : i < A.length) (h12 : i < 12) (hT : pkN (A.getD i default).1 3000 = T) (hr : ReadOf d s rates r) (hok : okR (-1) (l ++ [r]) = true) : MadeW d s rates A T (i + 1) (l ++ [r]) := by
  refine ⟨?_, hok, fun q hq => ?_⟩
  · have h1 := h.few
    have e : (A.take 12).getD i default = A.getD i default := by
      rw [List.getD_eq_getElem?_getD, List.getD_eq_getElem?_getD, List.getElem?_take_of_lt h12]
    rw [met_take (by rw [List.length_take]; omega), e, if_pos hT, List.length_append]
    simp; omega
  · rcases List.mem_append.1 hq with hq | hq
    · exact h.reads q hq
    · simp at hq; subst hq; exact hr
theorem MadeW.done {d s : Int} {rates : List Int} {A l : List Rd} (h0 : 0 ≤ d) (h1 : d ≤ 100) (h : MadeW d s rates A 3000 0 l) : MadeOf d s rates l := by
  refine ⟨h0, h1, ?_, h.ok, h.reads⟩
  have h2 := h.few
  rw [List.take_zero, List.countP_nil] at h2
  have h3 := List.countP_le_length (p := metB ((3000 : Nat) : Int)) (l := A.take 12)
  rw [List.length_take] at h3
  omega
theorem MadeW.room {d s : Int} {rates : List Int} {A l : List Rd} {T i : Nat} (h : MadeW d s rates A T i l) : l.length ≤ 24 := by
  have h2 := h.few
  have h3 := List.countP_le_length (p := metB (T : Int)) (l := A.take 12)
  have h4 := List.countP_le_length (p := metE (T : Int)) (l := (A.take 12).take i)
  rw [List.length_take] at h3 h4
  rw [List.length_take] at h4
  omega
theorem readOf_bounds {d s : Int} {rates : List Int} (h0 : 0 ≤ d) (h1 : d ≤ 100) (hs : 0 ≤ s) (hs1 : s < 1000) {r : Rd} (h : ReadOf d s rates r) : 0 ≤ r.1 ∧ r.1 ≤ 7000 ∧ 0 ≤ r.2.1 ∧ r.2.1 ≤ r.2.2 ∧ r.2.2 ≤ 3049 := by
  obtain ⟨t, t0, t1, e, a, b, c, f⟩ := h
  have := shownC_bounds h0 h1 hs hs1 rates t0
  rw [e]; omega
theorem readOf_ok {d s : Int} {rates : List Int} (h0 : 0 ≤ d) (h1 : d ≤ 100) (hs : 0 ≤ s) (hs1 : s < 1000) {l : List Rd} (h : ∀ r ∈ l, ReadOf d s rates r) : RdsOk l := fun r hr => by
  have := readOf_bounds h0 h1 hs hs1 (h r hr)
  exact ⟨⟨by omega, by omega⟩, ⟨by omega, by omega⟩, ⟨by omega, by omega⟩⟩

/-- The memory under way. -/
structure MadeH (d s : Int) (rates : List Int) (A : List Rd) (w : World) (T i : Nat) (wr : World) : Prop where
  has : ∃ l v, wr.heap[w.heap.size + 1]? = some (.cells #[.int .i64 d, v] 24 (0, 0)) ∧ wr.ownsRow (w.heap.size + 2) 46 3 v l.length (rvals l) ∧ MadeW d s rates A T i l
  res : wr.heap[w.heap.size]? = some (.cells #[.int .i64 0, .slice none 0 0] 24 (0, 0))
  below : Below w.heap.size w wr
  size : w.heap.size + 2 ≤ wr.heap.size
theorem owns_below {w w' : World} {base e size n : Nat} {v : Value} {xs : List Value} (h : w.ownsRow base e size v n xs) (hB : Below w.heap.size w w') : w'.ownsRow base e size v n xs := by
  obtain ⟨h1, h2⟩ := h
  refine ⟨h1, ?_⟩
  rcases h2 with h2 | ⟨g, cap, cur, hv, hg, hh, r⟩
  · exact .inl h2
  · exact .inr ⟨g, cap, cur, hv, hg, heap_below hB hh, r⟩
theorem MadeH.via {d s : Int} {rates : List Int} {A : List Rd} {w a b : World} {T i : Nat} (h : MadeH d s rates A w T i a) (hB : Below a.heap.size a b) : MadeH d s rates A w T i b := by
  obtain ⟨⟨l, v, h1, h2, h3⟩, h4, h5, h6⟩ := h
  exact ⟨⟨l, v, heap_below hB h1, owns_below h2 hB, h3⟩, heap_below hB h4, belowVia hB h5, Nat.le_trans h6 hB.size⟩

theorem MadeW.put {d s : Int} {rates : List Int} {A l : List Rd} {T i : Nat} {r : Rd} (h : MadeW d s rates A T i l) (hl : lastL (-1) l < r.1) (h1 : r.1 ≤ 7000) (h2 : 0 ≤ r.2.1) (h3 : r.2.1 ≤ r.2.2) (h4 : r.2.2 ≤ 3049) : okR (-1) (l ++ [r]) = true := by
  rw [okR_append, h.ok]
  simp [okR, hl, h2, h3]
  omega
theorem owns_other {w : World} {base e size n b i : Nat} {v x : Value} {xs : List Value} (h : w.ownsRow base e size v n xs) (hb : b < base) : (w.setCell ⟨b, i, none⟩ x).ownsRow base e size v n xs := by
  obtain ⟨h1, h2⟩ := h
  refine ⟨h1, ?_⟩
  rcases h2 with h2 | ⟨g, cap, cur, hv, hg, hh, r⟩
  · exact .inl h2
  · exact .inr ⟨g, cap, cur, hv, hg, (heap_setCell_other w ⟨b, i, none⟩ g x (fun e => by have : g = b := e; omega)).trans hh, r⟩
theorem lastL_get {l : List Rd} {m : Nat} (h : m + 1 = l.length) : lastL (-1) l = (l.getD m default).1 := by
  have e : l = l.take (m + 1) := (List.take_of_length_le (by omega)).symm
  rw [e, rds_take (by omega), lastL_snoc, ← rds_take (by omega), ← e]
set_option maxRecDepth 100000 in
set_option maxHeartbeats 4000000 in
theorem made_any (drift start : Int) (rates : List Int) (A : List Rd) (v u : Value) (w : World) (hd0 : I64 drift) (hs0 : I64 start) (h : NumsAt w v rates) (hr : ∀ x ∈ rates, I64 x) (hA : RdsAt w u A) :
    Calls Try.prog 10 #[.int .i64 drift, .int .i64 start, v, u] w fun e w' => ∃ (l : List Rd) (x : Value), e = .returned (.agg #[.int .i64 (pkN drift 101), x]) ∧ MadeOf (pkN drift 101) (pkN start 1000) rates l ∧ RdsAt w' x l ∧ Below w.heap.size w w' := by
  obtain ⟨⟨a, c, rfl, hc, hcb, hin⟩, hok⟩ := hA
  have HI := Lib.hid hin
  have HK := Lib.hid hok
  have HSH := Lib.hid (fun (T : Nat) (hT : (T : Int) < 3000) w1 (hB : Below w.heap.size w w1) => shown_t drift start T rates v w1 hd0 hs0 (by omega) (by omega) (h.via hB) hr)
  have HP1 := Lib.hid (fun w => rpick_any drift 101 hd0.1 hd0.2 (by decide) (by decide) w)
  obtain ⟨p1, p2⟩ := pkN_bounds drift (n := 101) (by decide)
  obtain ⟨p3, p4⟩ := pkN_bounds start (n := 1000) (by decide)
  obtain ⟨n, hn⟩ : ∃ n, n = A.length := ⟨_, rfl⟩
  rw [← hn] at hc ⊢
  have HN := Lib.hid hn
  have hnb : (n : Int) ≤ 9223372036854775807 := by omega
  have d1 : pkN drift 101 ≤ 100 := by omega
  clear hin hok hr hd0 hs0 h hn p2
  generalize pkN drift 101 = d at *
  generalize pkN start 1000 = s at *
  have HDS : Hid (0 ≤ d ∧ d ≤ 100 ∧ 0 ≤ s ∧ s < 1000) := ⟨p1, d1, p3, p4⟩
  clear p1 d1 p3 p4
  go_enter Try.func10, Try.ntmps10
  go_wp2_with fail
  have x1 := alloc_below w (.cells #[.int .i64 0, .slice none 0 0] 24)
  have y1 := heap_alloc_new w (.cells #[.int .i64 0, .slice none 0 0] 24)
  have z1 : (w.alloc (.cells #[.int .i64 0, .slice none 0 0] 24)).heap.size = w.heap.size + 1 := by simp
  generalize w.alloc (.cells #[.int .i64 0, .slice none 0 0] 24) = w1 at *
  refine (HP1.out _).mono ?_
  rintro e w2 ⟨rfl, rfl⟩
  clear HP1
  go_wp2_with fail
  have x2 := alloc_below w1 (.cells #[.int .i64 d, .slice none 0 0] 24)
  have y2 := heap_alloc_new w1 (.cells #[.int .i64 d, .slice none 0 0] 24)
  have z2 : (w1.alloc (.cells #[.int .i64 d, .slice none 0 0] 24)).heap.size = w.heap.size + 2 := by rw [show w.heap.size + 2 = w.heap.size + 1 + 1 from rfl, ← z1]; simp
  rw [z1] at y2
  have HM : Hid (MadeH d s rates A w 0 0 (w1.alloc (.cells #[.int .i64 d, .slice none 0 0] 24))) := ⟨⟨[], _, y2, World.ownsRow_nil _ _ _ _, MadeW.start _ _ _ _⟩, heap_below x2 y1, belowVia x2 x1, by omega⟩
  clear x1 x2 y1 y2 z1 z2
  generalize w1.alloc (.cells #[.int .i64 d, .slice none 0 0] 24) = w2 at *
  clear w1
  go_loopw [10] (fun t wr => ∃ T : Nat, T ≤ 3000 ∧ t = .int .i64 T ∧ MadeH d s rates A w T 0 wr) (fun t _ => 3000 - (intOf t).toNat)
  case atStart => exact ⟨0, by omega, rfl, HM.out⟩
  case round =>
    obtain ⟨T, hT, rfl, hm⟩ := hrel
    have HM := Lib.hid hm
    clear hm
    by_cases hlt : T < 3000
    · have hlt' : (T : Int) < 3000 := by omega
      go_wp2_with fail
      obtain ⟨wo, hwo⟩ : ∃ wo : World, wo = wr := ⟨_, rfl⟩
      subst hwo
      go_loopw [11] (fun i wr => ∃ k : Nat, k ≤ n ∧ k ≤ 12 ∧ i = .int .i64 k ∧ MadeH d s rates A w T k wr) (fun i _ => 12 - (intOf i).toNat)
      case atStart => exact ⟨0, Nat.zero_le _, by omega, rfl, HM.out⟩
      case round =>
        obtain ⟨k, hk, hk12, rfl, hm⟩ := hrel
        have HM := Lib.hid hm
        clear hm
        by_cases hgo : k < n ∧ k < 12
        · obtain ⟨h1, h2⟩ := hgo
          have h1' : (k : Int) < n := by omega
          have h2' : (k : Int) < 12 := by omega
          have hkl : k < A.length := by have := HN.out; omega
          obtain ⟨g, o, rfl, c0, c1, c2⟩ := (HI.out.via HM.out.below).get hkl
          obtain ⟨i0, i1, i2⟩ := HK.out _ (rds_mem hkl)
          have HP := Lib.hid (fun w => rpick_any (A.getD k default).1 3000 i0.1 i0.2 (by decide) (by decide) w)
          have HQ := Lib.hid (fun y (h : I64 y) w => rpick_any y 51 h.1 h.2 (by decide) (by decide) w)
          have HX := Lib.hid (fun (l : List Rd) (r : Rd) (h : MadeW d s rates A T k l) (e : pkN (A.getD k default).1 3000 = T) hr ho => h.add (r := r) hkl h2 e hr ho)
          have HSK := Lib.hid (fun (l : List Rd) (h : MadeW d s rates A T k l) => h.skip hkl h2)
          clear hkl i0
          generalize A.getD k default = r at *
          obtain ⟨x, y, z⟩ := r
          dsimp only at c0 c1 c2 i1 i2
          by_cases he : pkN x 3000 = T
          · have HE := Lib.hid he
            have hpx : pkN x 3000 = T := he
            go_wp2_with fail
            refine (HP.out _).mono ?_
            rintro e w3 ⟨rfl, rfl⟩
            go_wp2_with fail
            have HSA := Lib.hid (HSH.out T hlt')
            have hpy := pkN_bounds y (n := 51) (by decide)
            have hpz := pkN_bounds z (n := 51) (by decide)
            have hpy0 : 0 ≤ pkN y 51 := hpy.1
            have hpy1 : pkN y 51 ≤ 50 := by omega
            have hpz0 : 0 ≤ pkN z 51 := hpz.1
            have hpz1 : pkN z 51 ≤ 50 := by omega
            clear hpy hpz
            obtain ⟨q, hq⟩ : ∃ q, (T : Int) - pkN y 51 = q := ⟨_, rfl⟩
            have hq0 : -50 ≤ q := by omega
            have hq1 : q ≤ 3000 := by omega
            have hwq : IntKind.i64.wrap q = q := by rw [IntKind.wrap_i64]; omega
            obtain ⟨hi, hhi⟩ : ∃ hi, (T : Int) + pkN z 51 = hi := ⟨_, rfl⟩
            obtain ⟨lo, hlo⟩ : ∃ lo, (if q < 0 then (0 : Int) else q) = lo := ⟨_, rfl⟩
            have hwz : IntKind.i64.wrap hi = hi := by rw [IntKind.wrap_i64]; omega
            have HR : Hid (ReadOf d s rates (shownC d s rates T, lo, hi)) := ⟨T, by omega, hlt', rfl, by dsimp only; rw [← hlo]; split <;> omega, by dsimp only; rw [← hlo]; split <;> omega, by dsimp only; omega, by dsimp only; omega⟩
            generalize shownC d s rates T = L at *
            have hb : Below w.heap.size w wr := HM.out.below
            have HBB := Lib.hid hb
            have HMM := Lib.hid HM.out
            go_cut [12] (fun s12 wx => s12 = .pointer (some ⟨wr.heap.size, 0, none⟩) ∧ wx.heap[wr.heap.size]? = some (.cells #[.int .i64 L, .int .i64 lo, .int .i64 hi] 46 (0, 0)) ∧ Below wr.heap.size wr wx)
            case first =>
              --<
              go_region_held3 (fun w' => w'.cell? ⟨g, o + k * 3 + 1, none⟩ = some (.int .i64 y) ∧ w'.cell? ⟨g, o + k * 3 + 2, none⟩ = some (.int .i64 z) ∧ Below w.heap.size w w' ∧ Below wr.heap.size wr w')
                (first | exact ⟨c1, c2, below_drewN hb 1, (Below.refl _ _).drew⟩ | exact ⟨cellA (W := wr.drew) _ c1, cellA (W := wr.drew) _ c2, (below_drewN hb 1).alloc hb.size _, ((Below.refl wr.heap.size wr).drew).alloc (Nat.le_refl _) _⟩ | assumption) (first
                | (go_at_call 28; (with_reducible refine (HSA.out _ (And.left (And.right (And.right (by assumption))))).mono ?_); rintro e u3 ⟨rfl, rfl⟩)
                | (go_at_call 27; (with_reducible refine (HQ.out _ (by assumption) _).mono ?_); rintro e u3 ⟨rfl, rfl⟩))
              all_goals
                go_wp2_with fail
                go_meet
                case rel => exact ⟨rfl, heap_alloc_new wr _, (alloc_below wr _).drew⟩
              -->
            case rest =>
              obtain ⟨rfl, hbx, hBx⟩ := hcut
              obtain ⟨l, v2, hh, hown, hmw⟩ := HMM.out.has
              have HC := Lib.hid (heap_below hBx hh)
              have HO := Lib.hid (owns_below hown hBx)
              have HW := Lib.hid hmw
              have HRES := Lib.hid (heap_below hBx HMM.out.res)
              have HBX := Lib.hid (belowVia hBx HMM.out.below)
              have HSZ := Lib.hid (Nat.le_trans HMM.out.size hBx.size)
              have HBOX := Lib.hid hbx
              obtain ⟨a2, cp2, rfl, hc2, hcb2, hn2, hg2⟩ := owns_rds HO.out
              have b0 := (cell_of_row _ wr.heap.size 0 _ _ _ hbx).trans (by rfl : _ = some (.int .i64 L))
              have b1 := (cell_of_row _ wr.heap.size 1 _ _ _ hbx).trans (by rfl : _ = some (.int .i64 lo))
              have b2 := (cell_of_row _ wr.heap.size 2 _ _ _ hbx).trans (by rfl : _ = some (.int .i64 hi))
              have e0 := (cell_of_row _ (w.heap.size + 1) 0 _ _ _ HC.out).trans (by rfl : _ = some (.int .i64 d))
              have e1 := (cell_of_row _ (w.heap.size + 1) 1 _ _ _ HC.out).trans (by rfl : _ = some (.slice a2 l.length cp2))
              have f1 := frozen_of_row _ (w.heap.size + 1) 1 _ _ HC.out
              have HN2 := Lib.hid hn2
              have HROOM := Lib.hid hmw.room
              have hlb : (l.length : Int) ≤ 24 := by have := HROOM.out; omega
              have HRB := Lib.hid (readOf_bounds HDS.out.1 HDS.out.2.1 HDS.out.2.2.1 HDS.out.2.2.2 HR.out)
              clear hh hown hmw hbx hBx hn2 hg2 hpy0 hpy1 hpz0 hpz1 hq hq0 hq1 hwq hhi hlo hwz hb HBB HMM c1 c2 HQ HSA HM
              obtain ⟨nn, hnn⟩ : ∃ nn, nn = l.length := ⟨_, rfl⟩
              have HNN := Lib.hid hnn
              rw [← hnn] at hlb e1 hc2
              clear hnn
              rcases Nat.eq_zero_or_pos nn with hz | hz
              · subst hz
                have hl0 : l = [] := List.eq_nil_of_length_eq_zero HNN.out.symm
                have HPUT : Hid (okR (-1) (l ++ [(L, lo, hi)]) = true) := HW.out.put (by rw [hl0]; have := HRB.out.1; show (-1 : Int) < L; exact Int.lt_of_lt_of_le (by decide) this) HRB.out.2.1 HRB.out.2.2.1 HRB.out.2.2.2.1 HRB.out.2.2.2.2
                have HO1 := HO
                rw [← HNN.out] at HO1
                obtain ⟨i0, hj, hz0, hz1, hz2⟩ := info_parts info_rd
                have HJ0 := Lib.hid hj
                have HZ0 := Lib.hid hz0
                have HZ1 := Lib.hid hz1
                have HZ2 := Lib.hid hz2
                have HR1 : Hid (0 + 1 ≤ maxLen) := by show _ ≤ _; decide
                have HR2 : Hid ((0 + 1) * 24 ≤ 140737488355328) := by show _ ≤ _; decide
                have HR3 : Hid (w.heap.size + 2 ≤ (wc.alloc (.cells #[.int .i64 L, .int .i64 lo, .int .i64 hi] 46)).heap.size) := Nat.le_trans HSZ.out (by simp)
                clear hl0 hj hz0 hz1 hz2
                have hlen0 : (((0 : Nat) : Int) == 0) = true := rfl
                go_wp2_with fail
                go_quiet (fail)
                have hD : Below wc.heap.size wc (wc.drewN nq) := below_drewN (Below.refl _ _) nq
                have HC := Lib.hid (heap_below hD HC.out)
                have HO1 := Lib.hid (owns_below HO1.out hD)
                have HRES := Lib.hid (heap_below hD HRES.out)
                have HBX := Lib.hid (belowVia hD HBX.out)
                have HSZ := Lib.hid (Nat.le_trans HSZ.out hD.size)
                have HBOX := Lib.hid (heap_below hD HBOX.out)
                clear hD b0 b1 b2 e0 e1 f1
                generalize wc.drewN nq = wd at *
                have b0 := (cell_of_row _ wr.heap.size 0 _ _ _ HBOX.out).trans (by rfl : _ = some (.int .i64 L))
                have b1 := (cell_of_row _ wr.heap.size 1 _ _ _ HBOX.out).trans (by rfl : _ = some (.int .i64 lo))
                have b2 := (cell_of_row _ wr.heap.size 2 _ _ _ HBOX.out).trans (by rfl : _ = some (.int .i64 hi))
                have e0 := (cell_of_row _ (w.heap.size + 1) 0 _ _ _ HC.out).trans (by rfl : _ = some (.int .i64 d))
                have e1 := (cell_of_row _ (w.heap.size + 1) 1 _ _ _ HC.out).trans (by rw [← HNN.out]; rfl : _ = some (.slice a2 (0) cp2))
                have HR3 : Hid (w.heap.size + 2 ≤ (wd.alloc (.cells #[.int .i64 L, .int .i64 lo, .int .i64 hi] 46)).heap.size) := Nat.le_trans HSZ.out (by simp)
                go_wp2_with (at_builtin; refine wpList_append_own _ rfl _ _ 22 rfl (w.heap.size + 2) 46 i0 (.agg #[.int .i64 0, .int .i64 0, .int .i64 0]) 3 24 Try.underlying22 HJ0.out HZ0.out HZ1.out HZ2.out rfl (by decide) (.slice a2 0 cp2) 0 (rvals l) (by rfl) (HO1.out.alloc _) ⟨wd.heap.size, 0, none⟩ 1 1 (rdC (L, lo, hi)) (by rfl) rfl (news_rd _ (L, lo, hi) _) (one_rd _) HR1.out HR2.out HR3.out ?_; intro v' w3 hown hgrow _; have HO3 : Hid (w3.ownsRow (w.heap.size + 2) 46 3 v' (l ++ [(L, lo, hi)]).length (rvals (l ++ [(L, lo, hi)]))) := (by show World.ownsRow _ _ _ _ _ _ _; rw [rvals_snoc, List.length_append, ← HNN.out]; exact hown); have HG3 := Lib.hid hgrow; have HOB := Lib.hid (HO1.out.alloc (.cells #[.int .i64 L, .int .i64 lo, .int .i64 hi] 46)).lt; clear hown hgrow; have HC3 := Lib.hid (grown_heap HG3.out (heap_below (alloc_below wd (.cells #[.int .i64 L, .int .i64 lo, .int .i64 hi] 46)) HC.out) (fun e => by have := (HOB.out _ e.symm).1; omega)); have HRES3 := Lib.hid (grown_heap HG3.out (heap_below (alloc_below wd (.cells #[.int .i64 L, .int .i64 lo, .int .i64 hi] 46)) HRES.out) (fun e => by have := (HOB.out _ e.symm).1; omega)); have HBX3 := Lib.hid ((belowVia (alloc_below wd (.cells #[.int .i64 L, .int .i64 lo, .int .i64 hi] 46)) HBX.out).grown HG3.out (Nat.le_trans HBX.out.size (alloc_below wd _).size) (fun j hj => by have := (HOB.out j hj).1; omega)); have HSZ3 := Lib.hid (Nat.le_trans (Nat.le_trans HSZ.out (alloc_below wd (.cells #[.int .i64 L, .int .i64 lo, .int .i64 hi] 46)).size) HG3.out.size); have q0 := (cell_of_row _ (w.heap.size + 1) 0 _ _ _ HC3.out).trans (by rfl : _ = some (.int .i64 d)); have q1 := (cell_of_row _ (w.heap.size + 1) 1 _ _ _ HC3.out).trans (by rfl : _ = some _); have r1 := frozen_of_row _ (w.heap.size + 1) 1 _ _ HC3.out; obtain ⟨a3, cp3, rfl, hc3, hcb3, _, _⟩ := owns_rds HO3.out)
                go_roundw
                case rel => exact ⟨k + 1, by omega, by omega, by go_num, ⟨⟨l ++ [(L, lo, hi)], .slice a3 (l ++ [(L, lo, hi)]).length cp3, (by have h := heap_setCell_same w3 _ 1 _ _ (.slice a3 (l.length + 1) cp3) HC3.out; rw [show (l ++ [(L, lo, hi)]).length = l.length + 1 by simp]; exact h), owns_other HO3.out (by omega), HX.out l (L, lo, hi) HW.out HE.out HR.out HPUT.out⟩, (heap_setCell_other _ _ _ _ (by show w.heap.size ≠ w.heap.size + 1; omega)).trans HRES3.out, HBX3.out.setCell (by show w.heap.size ≤ w.heap.size + 1; omega) _, by rw [World.size_setCell]; exact HSZ3.out⟩⟩
                case measure => simp [intOf]; omega
              · obtain ⟨m, hm⟩ : ∃ m, m + 1 = nn := ⟨nn - 1, by omega⟩
                have hml : m < l.length := by have := HNN.out; omega
                obtain ⟨g2, o2, rfl, t0, _, _⟩ := HN2.out.get hml
                have HLL := Lib.hid (lastL_get (l := l) (m := m) (by have := HNN.out; omega))
                generalize (l.getD m default).1 = last at *
                have hg0 : ((nn : Int) == 0) = false := by rw [beq_eq_false_iff_ne]; omega
                have hw1 : IntKind.i64.wrap ((nn : Int) - 1) = (m : Int) := by rw [IntKind.wrap_i64]; omega
                have hm1 : (m : Int) < nn := by omega
                clear hm hml hz
                by_cases hlast : last < L
                · have HPUT : Hid (okR (-1) (l ++ [(L, lo, hi)]) = true) := HW.out.put (by rw [HLL.out]; exact hlast) HRB.out.2.1 HRB.out.2.2.1 HRB.out.2.2.2.1 HRB.out.2.2.2.2
                  have HO1 := HO
                  rw [← HNN.out] at HO1
                  obtain ⟨i0, hj, hz0, hz1, hz2⟩ := info_parts info_rd
                  have HJ0 := Lib.hid hj
                  have HZ0 := Lib.hid hz0
                  have HZ1 := Lib.hid hz1
                  have HZ2 := Lib.hid hz2
                  have HR1 : Hid (nn + 1 ≤ maxLen) := by show _ ≤ _; unfold maxLen; omega
                  have HR2 : Hid ((nn + 1) * 24 ≤ 140737488355328) := by show _ ≤ _; omega
                  have HR3 : Hid (w.heap.size + 2 ≤ (wc.alloc (.cells #[.int .i64 L, .int .i64 lo, .int .i64 hi] 46)).heap.size) := Nat.le_trans HSZ.out (by simp)
                  clear hj hz0 hz1 hz2
                  go_wp2_with fail
                  go_quiet (fail)
                  have hD : Below wc.heap.size wc (wc.drewN nq) := below_drewN (Below.refl _ _) nq
                  have HC := Lib.hid (heap_below hD HC.out)
                  have HO1 := Lib.hid (owns_below HO1.out hD)
                  have HRES := Lib.hid (heap_below hD HRES.out)
                  have HBX := Lib.hid (belowVia hD HBX.out)
                  have HSZ := Lib.hid (Nat.le_trans HSZ.out hD.size)
                  have HBOX := Lib.hid (heap_below hD HBOX.out)
                  clear hD t0 b0 b1 b2 e0 e1 f1
                  generalize wc.drewN nq = wd at *
                  have b0 := (cell_of_row _ wr.heap.size 0 _ _ _ HBOX.out).trans (by rfl : _ = some (.int .i64 L))
                  have b1 := (cell_of_row _ wr.heap.size 1 _ _ _ HBOX.out).trans (by rfl : _ = some (.int .i64 lo))
                  have b2 := (cell_of_row _ wr.heap.size 2 _ _ _ HBOX.out).trans (by rfl : _ = some (.int .i64 hi))
                  have e0 := (cell_of_row _ (w.heap.size + 1) 0 _ _ _ HC.out).trans (by rfl : _ = some (.int .i64 d))
                  have e1 := (cell_of_row _ (w.heap.size + 1) 1 _ _ _ HC.out).trans (by rw [← HNN.out]; rfl : _ = some (.slice (some ⟨g2, o2, none⟩) (nn) cp2))
                  have HR3 : Hid (w.heap.size + 2 ≤ (wd.alloc (.cells #[.int .i64 L, .int .i64 lo, .int .i64 hi] 46)).heap.size) := Nat.le_trans HSZ.out (by simp)
                  go_wp2_with (at_builtin; refine wpList_append_own _ rfl _ _ 22 rfl (w.heap.size + 2) 46 i0 (.agg #[.int .i64 0, .int .i64 0, .int .i64 0]) 3 24 Try.underlying22 HJ0.out HZ0.out HZ1.out HZ2.out rfl (by decide) (.slice (some ⟨g2, o2, none⟩) nn cp2) nn (rvals l) (by rfl) (HO1.out.alloc _) ⟨wd.heap.size, 0, none⟩ 1 1 (rdC (L, lo, hi)) (by rfl) rfl (news_rd _ (L, lo, hi) _) (one_rd _) HR1.out HR2.out HR3.out ?_; intro v' w3 hown hgrow _; have HO3 : Hid (w3.ownsRow (w.heap.size + 2) 46 3 v' (l ++ [(L, lo, hi)]).length (rvals (l ++ [(L, lo, hi)]))) := (by show World.ownsRow _ _ _ _ _ _ _; rw [rvals_snoc, List.length_append, ← HNN.out]; exact hown); have HG3 := Lib.hid hgrow; have HOB := Lib.hid (HO1.out.alloc (.cells #[.int .i64 L, .int .i64 lo, .int .i64 hi] 46)).lt; clear hown hgrow; have HC3 := Lib.hid (grown_heap HG3.out (heap_below (alloc_below wd (.cells #[.int .i64 L, .int .i64 lo, .int .i64 hi] 46)) HC.out) (fun e => by have := (HOB.out _ e.symm).1; omega)); have HRES3 := Lib.hid (grown_heap HG3.out (heap_below (alloc_below wd (.cells #[.int .i64 L, .int .i64 lo, .int .i64 hi] 46)) HRES.out) (fun e => by have := (HOB.out _ e.symm).1; omega)); have HBX3 := Lib.hid ((belowVia (alloc_below wd (.cells #[.int .i64 L, .int .i64 lo, .int .i64 hi] 46)) HBX.out).grown HG3.out (Nat.le_trans HBX.out.size (alloc_below wd _).size) (fun j hj => by have := (HOB.out j hj).1; omega)); have HSZ3 := Lib.hid (Nat.le_trans (Nat.le_trans HSZ.out (alloc_below wd (.cells #[.int .i64 L, .int .i64 lo, .int .i64 hi] 46)).size) HG3.out.size); have q0 := (cell_of_row _ (w.heap.size + 1) 0 _ _ _ HC3.out).trans (by rfl : _ = some (.int .i64 d)); have q1 := (cell_of_row _ (w.heap.size + 1) 1 _ _ _ HC3.out).trans (by rfl : _ = some _); have r1 := frozen_of_row _ (w.heap.size + 1) 1 _ _ HC3.out; obtain ⟨a3, cp3, rfl, hc3, hcb3, _, _⟩ := owns_rds HO3.out)
                  go_roundw
                  case rel => exact ⟨k + 1, by omega, by omega, by go_num, ⟨⟨l ++ [(L, lo, hi)], .slice a3 (l ++ [(L, lo, hi)]).length cp3, (by have h := heap_setCell_same w3 _ 1 _ _ (.slice a3 (l.length + 1) cp3) HC3.out; rw [show (l ++ [(L, lo, hi)]).length = l.length + 1 by simp]; exact h), owns_other HO3.out (by omega), HX.out l (L, lo, hi) HW.out HE.out HR.out HPUT.out⟩, (heap_setCell_other _ _ _ _ (by show w.heap.size ≠ w.heap.size + 1; omega)).trans HRES3.out, HBX3.out.setCell (by show w.heap.size ≤ w.heap.size + 1; omega) _, by rw [World.size_setCell]; exact HSZ3.out⟩⟩
                  case measure => simp [intOf]; omega
                · have hlast' : ¬ last < L := hlast
                  have hlast2 : decide (last < L) = false := by simpa using hlast
                  go_wp2_with fail
                  go_quiet (fail)
                  go_wp2_with fail
                  go_roundw
                  case rel => exact ⟨k + 1, by omega, by omega, by go_num, MadeH.via (a := wc) ⟨⟨l, _, HC.out, HO.out, HSK.out l HW.out⟩, HRES.out, HBX.out, HSZ.out⟩ (below_drewN (Below.refl _ _) nq)⟩
                  case measure => simp [intOf]; omega
          · have he' : ¬ pkN x 3000 = T := he
            have hb1 : (pkN x 3000 == (T : Int)) = false := by rw [beq_eq_false_iff_ne]; exact he
            have hb2 : (pkN x 3000 != (T : Int)) = true := by rw [bne_iff_ne]; exact he
            have HMM := Lib.hid HM.out
            have HE := Lib.hid he
            clear he he'
            go_wp2_with fail
            refine (HP.out _).mono ?_
            rintro e w3 ⟨rfl, rfl⟩
            go_wp2_with fail
            go_roundw
            case rel =>
              obtain ⟨⟨l, v2, hh, hown, hmw⟩, h4, h5, h6⟩ := HMM.out
              exact ⟨k + 1, by omega, by omega, by go_num, ⟨⟨l, v2, hh, hown, HSK.out l hmw⟩, h4, h5, h6⟩⟩
            case measure => simp [intOf]; omega
        · have HMM := Lib.hid HM.out
          have HOUT : Hid (A.length ≤ k ∨ 12 ≤ k) := by show _ ∨ _; have := HN.out; omega
          by_cases h1 : k < n
          · have h1' : (k : Int) < n := by omega
            have h2' : (12 : Int) ≤ k := by omega
            clear hgo
            go_wp2_with fail
            go_roundw
            case rel =>
              obtain ⟨⟨l, v2, hh, hown, hmw⟩, h4, h5, h6⟩ := HMM.out
              exact ⟨T + 1, by omega, by go_num, ⟨⟨l, v2, hh, hown, hmw.outer HOUT.out⟩, h4, h5, h6⟩⟩
            case measure => simp [intOf]; omega
          · have h1' : (n : Int) ≤ k := by omega
            clear hgo
            go_wp2_with fail
            go_roundw
            case rel =>
              obtain ⟨⟨l, v2, hh, hown, hmw⟩, h4, h5, h6⟩ := HMM.out
              exact ⟨T + 1, by omega, by go_num, ⟨⟨l, v2, hh, hown, hmw.outer HOUT.out⟩, h4, h5, h6⟩⟩
            case measure => simp [intOf]; omega
    · obtain rfl : T = 3000 := by omega
      obtain ⟨l, v2, hh, hown, hmw⟩ := HM.out.has
      have hres := HM.out.res
      have r0 := (cell_of_row _ w.heap.size 0 _ _ _ hres).trans (by rfl : _ = some (.int .i64 0))
      have r1 := (cell_of_row _ w.heap.size 1 _ _ _ hres).trans (by rfl : _ = some (.slice none 0 0))
      have f0 := frozen_of_row _ w.heap.size 0 _ _ hres
      have f1 := frozen_of_row _ w.heap.size 1 _ _ hres
      have e0 := (cell_of_row _ (w.heap.size + 1) 0 _ _ _ hh).trans (by rfl : _ = some (.int .i64 d))
      have e1 := (cell_of_row _ (w.heap.size + 1) 1 _ _ _ hh).trans (by rfl : _ = some v2)
      obtain ⟨a2, cp2, rfl, hc2, hcb2, _, _⟩ := owns_rds hown
      have HMD := Lib.hid (hmw.done HDS.out.1 HDS.out.2.1)
      have HOK := Lib.hid (readOf_ok HDS.out.1 HDS.out.2.1 HDS.out.2.2.1 HDS.out.2.2.2 hmw.reads)
      have HO := Lib.hid hown
      have HRES := Lib.hid hres
      have HBX := Lib.hid HM.out.below
      clear hh hown hmw hres hT hlt HM
      go_wp2_with fail
      refine bodyPost_ret (results_cell_row rfl _ _ w.heap.size _ _ _ _ rfl (pair_set HRES.out _ _) Try.underlying24 rfl info_clock) rfl ⟨l, _, rfl, HMD.out, owns_at (owns_other (owns_other HO.out (by omega)) (by omega)) HOK.out, ((HBX.out.setCell (Nat.le_refl _) _).setCell (Nat.le_refl _) _)⟩
end Go.Proofs.Ytiakjaglnjecgaa
